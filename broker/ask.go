package broker

import (
	"slices"
	"strings"

	"bilander/api"
	"bilander/commit"
	"bilander/group"
	"bilander/meta"
	"bilander/part"
	"bilander/quota"
	"bilander/state"
	"bilander/wire"
)

const (
	mostFetch = 16 // batches of one answer
	mostGroup = 20 // bytes of a group's name
)

// target is the topic and the part that a request names.
type target struct {
	topic api.Topic
	part  *part.Part
}

// answerer answers requests of one kind; with an error its response counts for nothing.
type answerer func(q api.Request, t target) (api.Response, api.Errno)

// answererOf tells who answers requests of a kind.
func (x *Broker) answererOf(kind uint8) answerer {
	switch kind {
	case api.Create:
		return x.create
	case api.Remove:
		return x.remove
	case api.Describe:
		return x.describe
	case api.Produce:
		return x.produce
	case api.Fetch:
		return x.fetch
	case api.ByTime:
		return x.byTime
	case api.Join:
		return x.join
	case api.Sync:
		return x.sync
	case api.Beat:
		return x.beat
	case api.Leave:
		return x.leave
	case api.Commit:
		return x.commit
	}
	return x.committed
}

// Ask answers a request.
func (x *Broker) Ask(q api.Request) api.Response {
	switch {
	case x == nil:
		return api.Response{Kind: noKind, Err: api.ErrNil}
	case q.Kind > api.Committed:
		return api.Response{Kind: noKind, Err: api.ErrKind}
	case x.bad:
		return api.Response{Kind: q.Kind, Err: api.ErrState}
	}
	t, err := x.find(q)
	if err != api.OK {
		return api.Response{Kind: q.Kind, Err: err}
	}
	answer := x.answererOf(q.Kind)
	a, err := answer(q, t)
	if err != api.OK {
		return api.Response{Kind: q.Kind, Err: x.told(err)}
	}
	a.Kind = q.Kind
	return a
}

func isReserved(name string) bool { return name != "" && name[0] == reserved }

// find tells what a request names; what it names not, and what is to be made, is left zero.
func (x *Broker) find(q api.Request) (target, api.Errno) {
	uses := wire.Uses(q.Kind)
	if q.Kind == api.Create || !strings.Contains(uses, "t") {
		return target{}, api.OK
	}
	if isReserved(q.Topic) && q.Kind != api.Describe && q.Kind != api.Fetch {
		return target{}, api.ErrName
	}
	t, there := state.Topic(x.j.State(), q.Topic)
	if !there {
		return target{}, api.ErrNone
	}
	if !strings.Contains(uses, "i") {
		return target{topic: t}, api.OK
	}
	p, there := x.parts[api.Part{Topic: t.ID, Index: q.Index}]
	if !there {
		return target{}, api.ErrNone
	}
	return target{topic: t, part: p}, api.OK
}

func (x *Broker) create(q api.Request, _ target) (api.Response, api.Errno) {
	if !meta.Name(q.Topic) || isReserved(q.Topic) {
		return api.Response{}, api.ErrName
	}
	if q.Parts < 1 || q.Parts > api.MaxParts {
		return api.Response{}, api.ErrRange
	}
	id := x.j.State().Next
	if err := x.j.Add(api.Meta{Kind: api.Makes, Topic: id, Name: q.Topic, Parts: q.Parts, Compact: q.Compact}); err != api.OK {
		return api.Response{}, err
	}
	made := slices.DeleteFunc(x.j.State().Chains, func(c api.Chain) bool { return c.Part.Topic != id })
	if err := x.openParts(made); err != api.OK {
		return api.Response{}, err
	}
	return api.Response{Offset: id}, api.OK
}

func (x *Broker) remove(_ api.Request, t target) (api.Response, api.Errno) {
	if err := x.j.Add(api.Meta{Kind: api.Deletes, Topic: t.topic.ID}); err != api.OK {
		return api.Response{}, err
	}
	for i := range t.topic.Parts {
		delete(x.parts, api.Part{Topic: t.topic.ID, Index: i})
	}
	return api.Response{}, api.OK
}

func (x *Broker) describe(_ api.Request, t target) (api.Response, api.Errno) {
	a := api.Response{Offset: t.topic.ID, Next: t.topic.Parts, Names: []string{t.topic.Name}}
	for i := range t.topic.Parts {
		p := x.parts[api.Part{Topic: t.topic.ID, Index: i}]
		a.Parts = append(a.Parts, p.Start(), p.Next())
	}
	return a, api.OK
}

func (x *Broker) produce(q api.Request, t target) (api.Response, api.Errno) {
	left, err := quota.Take(x.bucket, max(q.Batch.Count, 0), x.now)
	if err != api.OK {
		return api.Response{}, err
	}
	base, double, err := t.part.Produce(q.Batch, q.Flush)
	if err != api.OK {
		return api.Response{}, err
	}
	if !double {
		x.bucket = left
	}
	return api.Response{Offset: base, Double: double, Next: t.part.Next()}, api.OK
}

func (x *Broker) fetch(q api.Request, t target) (api.Response, api.Errno) {
	if q.Most < 1 {
		return api.Response{}, api.ErrArg
	}
	l, err := t.part.Fetch(q.Offset, min(q.Most, mostFetch))
	if err != api.OK {
		return api.Response{}, err
	}
	return api.Response{Batches: l, Offset: t.part.Start(), Next: t.part.Next()}, api.OK
}

func (x *Broker) byTime(q api.Request, t target) (api.Response, api.Errno) {
	offset, there, err := t.part.ByTime(q.Time)
	if err != api.OK {
		return api.Response{}, err
	}
	return api.Response{Offset: offset, Double: there, Next: t.part.Next()}, api.OK
}

func mayGroup(name string) bool { return len(name) >= 1 && len(name) <= mostGroup }

// joined keeps a group whose members have changed, and tells of it.
func (x *Broker) joined(name string, g group.Group) api.Response {
	x.groups[name] = g
	return api.Response{Gen: g.Gen, Names: group.Names(g)}
}

func (x *Broker) join(q api.Request, _ target) (api.Response, api.Errno) {
	if !mayGroup(q.Group) {
		return api.Response{}, api.ErrName
	}
	g, there := x.groups[q.Group]
	if !there && len(x.groups) >= api.MaxGroups {
		return api.Response{}, api.ErrFull
	}
	g, err := group.Join(g, q.Member, x.now)
	if err != api.OK {
		return api.Response{}, err
	}
	return x.joined(q.Group, g), api.OK
}

func (x *Broker) leave(q api.Request, _ target) (api.Response, api.Errno) {
	if !mayGroup(q.Group) {
		return api.Response{}, api.ErrName
	}
	g, there := x.groups[q.Group]
	if !there {
		return api.Response{}, api.ErrMember
	}
	g, err := group.Leave(g, q.Member)
	if err != api.OK {
		return api.Response{}, err
	}
	return x.joined(q.Group, g), api.OK
}

func (x *Broker) sync(q api.Request, t target) (api.Response, api.Errno) {
	g, there := x.groups[q.Group]
	if !there {
		return api.Response{}, api.ErrMember
	}
	g, parts, err := group.Sync(g, q.Member, q.Gen, t.topic.Parts, x.now)
	if err != api.OK {
		return api.Response{}, err
	}
	x.groups[q.Group] = g
	return api.Response{Gen: g.Gen, Parts: parts}, api.OK
}

// beaten tells a group with a member seen now.
func (x *Broker) beaten(q api.Request) (group.Group, api.Errno) {
	g, there := x.groups[q.Group]
	if !there {
		return group.Group{}, api.ErrMember
	}
	return group.Beat(g, q.Member, q.Gen, x.now)
}

func (x *Broker) beat(q api.Request, _ target) (api.Response, api.Errno) {
	g, err := x.beaten(q)
	if err != api.OK {
		return api.Response{}, err
	}
	x.groups[q.Group] = g
	return api.Response{Gen: g.Gen}, api.OK
}

func (x *Broker) commit(q api.Request, t target) (api.Response, api.Errno) {
	g, err := x.beaten(q)
	if err != api.OK {
		return api.Response{}, err
	}
	if q.Offset < t.part.Start() || q.Offset > t.part.Next() {
		return api.Response{}, api.ErrOffset
	}
	r, err := commit.Put(commit.Commit{Group: q.Group, Topic: q.Topic, Index: q.Index, Offset: q.Offset}, x.now)
	if err != api.OK {
		return api.Response{}, err
	}
	b := api.Batch{Count: 1, Records: []api.Record{r}}
	if _, _, err := x.commitsPart().Produce(b, true); err != api.OK {
		return api.Response{}, err
	}
	x.groups[q.Group] = g
	x.commits = commit.Play(x.commits, b)
	return api.Response{}, api.OK
}

func (x *Broker) committed(q api.Request, _ target) (api.Response, api.Errno) {
	offset, there := commit.Find(x.commits, q.Group, q.Topic, q.Index)
	return api.Response{Offset: offset, Double: there}, api.OK
}
