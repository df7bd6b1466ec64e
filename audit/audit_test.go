package audit_test

import (
	"math/rand/v2"
	"slices"
	"testing"

	"bilander/api"
	"bilander/audit"
	"bilander/batch"
	"bilander/broker"
	"bilander/frame"
	"bilander/journal"
	"bilander/zone"
)

var free = api.Config{Time: -1, Blocks: 12, Grace: 5, Patience: 9, Size: 1000, Rate: 1000}

func fresh(t *testing.T, zones, blocks int) (*zone.Dev, *broker.Broker) {
	t.Helper()
	d, _ := zone.New(zones, blocks)
	x, e := broker.Format(d, free)
	if e != api.OK {
		t.Fatal(e)
	}
	return d, x
}

// crafted tells a device whose journal has a topic of one part with these links, and whose zones hold these batches.
func crafted(links []api.Link, start int, zones map[int][]api.Batch) *zone.Dev {
	d, _ := zone.New(8, 8)
	j, _ := journal.Format(d)
	j.Add(api.Meta{Kind: api.Makes, Name: "a", Parts: 1})
	if start > 0 {
		j.Add(api.Meta{Kind: api.Begins, Base: start})
	}
	for _, k := range links {
		j.Add(api.Meta{Kind: api.Links, Zone: k.Zone, Base: k.Base})
	}
	for z, l := range zones {
		for _, b := range l {
			bytes, _ := batch.Put(b)
			blocks, _ := frame.Lay(bytes)
			for _, x := range blocks {
				d.Append(z, x)
			}
		}
	}
	return d
}

// P25.1
func TestLook(t *testing.T) {
	d, x := fresh(t, 8, 16)
	if r, e := audit.Look(d); e != api.OK || r != (audit.Report{Zones: 8, Said: 2, Free: 6, Topics: 1, Parts: 1}) {
		t.Error(r, e)
	}
	x.Ask(api.Request{Kind: api.Create, Topic: "t", Parts: 2})
	for i := range 2 {
		x.Ask(api.Request{Kind: api.Produce, Topic: "t", Index: i, Batch: api.Batch{Count: 3, Records: []api.Record{{}, {Delta: 2}}}})
	}
	d.Append(6, make([]byte, 64))
	if r, e := audit.Look(d); e != api.OK || r != (audit.Report{Zones: 8, Said: 2, Free: 3, Owned: 2, Pending: 1, Topics: 2, Parts: 3, Batches: 2, Records: 4}) {
		t.Error(r, e)
	}
	parts, logs, e := audit.Logs(d)
	if e != api.OK || !slices.Equal(parts, []api.Part{{}, {Topic: 1}, {Topic: 1, Index: 1}}) || len(logs) != 3 || logs[0].Next() != 0 || logs[1].Next() != 3 || logs[2].Next() != 3 {
		t.Error(parts, e)
	}
}

// P25.1
func TestErrors(t *testing.T) {
	empty, _ := zone.New(4, 4)
	down, _ := fresh(t, 8, 8)
	down.Fail(0, true)
	down.Flush()
	for i, c := range []struct {
		d *zone.Dev
		e api.Errno
	}{{nil, api.ErrNil}, {empty, api.ErrForm}, {down, api.ErrDown}} {
		r, e1 := audit.Look(c.d)
		parts, logs, e2 := audit.Logs(c.d)
		if e1 != c.e || e2 != c.e || audit.Sound(c.d) != c.e || audit.Settled(c.d) || r != (audit.Report{}) || parts != nil || logs != nil {
			t.Error(i, e1, e2)
		}
	}
}

// P25.2
func TestSound(t *testing.T) {
	of := func(base, count int) api.Batch { return api.Batch{Base: base, Count: count} }
	from := func(base, seq int) api.Batch { return api.Batch{Base: base, Count: 1, Producer: 7, Seq: seq} }
	two := []api.Link{{Zone: 2, Base: 0}, {Zone: 3, Base: 5}}
	for i, c := range []struct {
		d *zone.Dev
		e api.Errno
	}{
		{crafted(two, 0, map[int][]api.Batch{2: {of(0, 2), of(3, 2)}, 3: {of(5, 1)}}), api.OK},
		{crafted(two, 3, map[int][]api.Batch{2: {of(0, 2), of(3, 2)}, 3: {of(9, 1)}}), api.OK},
		{crafted(two, 0, map[int][]api.Batch{2: {of(0, 2), of(3, 3)}, 3: {of(6, 1)}}), api.ErrForm},
		{crafted(two, 7, map[int][]api.Batch{2: {of(0, 2)}, 3: {of(5, 1)}}), api.ErrForm},
		{crafted(nil, 7, nil), api.OK},
		{crafted([]api.Link{{Zone: 2}, {Zone: 9}}, 0, nil), api.ErrForm},
		{crafted([]api.Link{{Zone: 8}}, 0, nil), api.ErrForm},
		{crafted([]api.Link{{Zone: 7}}, 0, nil), api.OK},
		{crafted(two, 0, map[int][]api.Batch{2: {from(0, 0), from(1, 1)}, 3: {from(5, 2)}}), api.OK},
		{crafted(two, 0, map[int][]api.Batch{2: {from(0, 0), from(1, 1)}, 3: {from(5, 9)}}), api.OK},
		{crafted(two, 0, map[int][]api.Batch{2: {from(0, 0), from(1, 1)}, 3: {from(5, 0)}}), api.ErrForm},
		{crafted(two, 0, map[int][]api.Batch{2: {from(0, 0), from(1, 1), of(1, 1)}, 3: {from(5, 2)}}), api.OK},
	} {
		if e := audit.Sound(c.d); e != c.e {
			t.Error(i, e)
		}
	}
}

// P25.3
func TestSettledAndAdd(t *testing.T) {
	d, _ := fresh(t, 8, 8)
	if !audit.Settled(d) {
		t.Error("settled")
	}
	d.Finish(7)
	if audit.Settled(d) {
		t.Error("a zone waits")
	}
	a, b := audit.Report{1, 2, 3, 4, 5, 6, 7, 8, 9}, audit.Report{10, 20, 30, 40, 50, 60, 70, 80, 90}
	if r := audit.Add(a, b); r != (audit.Report{11, 22, 33, 44, 55, 66, 77, 88, 99}) {
		t.Error(r)
	}
}

// P25.4
func TestSoundBehindEachStep(t *testing.T) {
	r := rand.New(rand.NewPCG(25, 25))
	for range 60 {
		d, x := fresh(t, 12, 4+r.IntN(5))
		x.Ask(api.Request{Kind: api.Create, Topic: "a", Parts: 2})
		x.Ask(api.Request{Kind: api.Create, Topic: "b", Parts: 1, Compact: true})
		for now := range 120 {
			switch r.IntN(12) {
			case 0:
				d.Fail(r.IntN(12), r.IntN(2) == 0)
			case 1:
				x.Tick(now)
			case 2, 3, 4:
				x.Work()
			default:
				q := api.Request{Kind: api.Produce, Topic: string(rune('a' + r.IntN(2))), Index: r.IntN(2), Flush: r.IntN(2) == 0, Batch: api.Batch{Count: 1, Producer: 1, Seq: r.IntN(8)}}
				q.Batch.Records = []api.Record{{Time: now, Keyed: true, Key: string(rune('a' + r.IntN(3))), Value: string(make([]byte, r.IntN(80)))}}
				x.Ask(q)
			}
			if d.Down() {
				d.Crash([]byte{byte(r.IntN(256)), byte(r.IntN(256)), byte(r.IntN(256)), byte(r.IntN(256)), byte(r.IntN(256)), byte(r.IntN(256))})
				y, e := broker.Open(d, free)
				if e != api.OK {
					t.Fatal(e)
				}
				x = y
			}
			if e := audit.Sound(d); e != api.OK {
				t.Fatal(now, e)
			}
			if p, e := audit.Look(d); e != api.OK || p.Free+p.Said+p.Owned+p.Pending != 12 {
				t.Fatal(p, e)
			}
		}
	}
}
