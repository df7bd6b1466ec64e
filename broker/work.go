package broker

import (
	"bilander/api"
	"bilander/group"
	"bilander/part"
	"bilander/retain"
	"bilander/state"
	"bilander/zalloc"
)

// Tick lets time go on.
func (x *Broker) Tick(now int) api.Errno {
	if x == nil {
		return api.ErrNil
	}
	if now < x.now || now > api.MaxTime {
		return api.ErrRange
	}
	x.now = now
	for name, g := range x.groups {
		x.groups[name] = group.Tick(g, now, x.conf.Patience)
	}
	return api.OK
}

// sweep empties a zone that waits.
func (x *Broker) sweep() (bool, api.Errno) {
	_, err := zalloc.Sweep(x.dev, x.j.State())
	if err == api.ErrNone {
		return false, api.OK
	}
	return err == api.OK, err
}

// retain lets segments of a part go.
func (x *Broker) retain(p *part.Part) (bool, api.Errno) {
	n, err := p.Retain(retain.Rule{Time: x.conf.Time, Blocks: x.conf.Blocks}, x.now)
	return n > 0, err
}

// clean compacts a part.
func (x *Broker) clean(p *part.Part) (bool, api.Errno) { return p.Clean(x.now, x.conf.Grace) }

// firstOf works on the parts of topics that are compacted, or are not, up to the first one on which something is done.
func (x *Broker) firstOf(compacted bool, work func(*part.Part) (bool, api.Errno)) (bool, api.Errno) {
	s := x.j.State()
	for _, c := range s.Chains {
		t, _ := state.ByID(s, c.Part.Topic)
		if t.Compact != compacted {
			continue
		}
		if did, err := work(x.parts[c.Part]); did || err != api.OK {
			return did, err
		}
	}
	return false, api.OK
}

// Work does a step of background work.
func (x *Broker) Work() (bool, api.Errno) {
	if x == nil {
		return false, api.ErrNil
	}
	if x.bad {
		return false, api.ErrState
	}
	did, err := x.sweep()
	if !did && err == api.OK {
		did, err = x.firstOf(false, x.retain)
	}
	if !did && err == api.OK {
		did, err = x.firstOf(true, x.clean)
	}
	return did, x.told(err)
}
