package broker_test

import (
	"math"
	"slices"
	"strconv"
	"strings"
	"testing"

	"bilander/api"
	"bilander/broker"
	"bilander/commit"
	"bilander/group"
	"bilander/journal"
	"bilander/wire"
	"bilander/zone"
)

var free = api.Config{Time: -1, Blocks: -1, Grace: 1000, Patience: 1000, Size: 1000, Rate: 1000}

func fresh(t *testing.T, zones, blocks int, c api.Config) (*zone.Dev, *broker.Broker) {
	t.Helper()
	d, _ := zone.New(zones, blocks)
	x, e := broker.Format(d, c)
	if e != api.OK {
		t.Fatal(e)
	}
	return d, x
}

// ok asks what is answered without an error.
func ok(t *testing.T, x *broker.Broker, q api.Request) api.Response {
	t.Helper()
	a := x.Ask(q)
	if a.Err != api.OK || a.Kind != q.Kind {
		t.Fatal(q, a)
	}
	return a
}

// asks compares an answer.
func asks(t *testing.T, x *broker.Broker, q api.Request, want api.Response) {
	t.Helper()
	want.Kind = q.Kind
	if a := x.Ask(q); !wire.SameResponse(a, want) {
		t.Errorf("%v: %v, not %v", q, a, want)
	}
}

func refuses(t *testing.T, x *broker.Broker, q api.Request, e api.Errno) {
	t.Helper()
	asks(t, x, q, api.Response{Err: e})
}

func create(name string, parts int, compact bool) api.Request {
	return api.Request{Kind: api.Create, Topic: name, Parts: parts, Compact: compact}
}

// keyed tells a batch that needs 2 blocks.
func keyed(key string) api.Batch {
	return api.Batch{Count: 1, Records: []api.Record{{Keyed: true, Key: key, Value: strings.Repeat("v", 50)}}}
}

func produce(name string, b api.Batch) api.Request {
	return api.Request{Kind: api.Produce, Topic: name, Flush: true, Batch: b}
}

func offsets(l []api.Batch) []int {
	var out []int
	for _, b := range l {
		for _, r := range b.Records {
			out = append(out, b.Base+r.Delta)
		}
	}
	return out
}

// P24.1
func TestFormatAndOpen(t *testing.T) {
	for i, c := range []struct {
		c api.Config
		e api.Errno
	}{{api.Config{}, api.OK}, {api.Config{Size: 1 << 30, Rate: 1 << 30, Time: -5, Grace: -5}, api.OK}, {api.Config{Size: -1}, api.ErrRange}, {api.Config{Rate: 1<<30 + 1}, api.ErrRange}} {
		d, _ := zone.New(8, 8)
		x, e := broker.Format(d, c.c)
		if e != api.OK && d.Ops() != 0 {
			t.Error("changed", i)
		}
		if broker.Check(c.c) != c.e || e != c.e || (x == nil) != (e != api.OK) {
			t.Error(i, e)
		}
		if _, e := broker.Open(d, c.c); e != c.e {
			t.Error(i, e)
		}
	}
	d, _ := zone.New(8, 8)
	_, e1 := broker.Format(nil, api.Config{Size: -1})
	_, e2 := broker.Open(nil, api.Config{Size: -1})
	_, e3 := broker.Open(d, free)
	if e1 != api.ErrNil || e2 != api.ErrNil || e3 != api.ErrForm {
		t.Error(e1, e2, e3)
	}
	j, _ := journal.Format(d)
	if _, e := broker.Open(d, free); e != api.ErrForm {
		t.Error("no topic of commits", e)
	}
	j.Add(api.Meta{Kind: api.Makes, Name: "_offsets", Parts: 1, Compact: true})
	if x, e := broker.Open(d, free); e != api.OK || x.Now() != 0 || len(x.Commits()) != 0 {
		t.Error(e)
	}
	for i, m := range []api.Meta{{Name: "_offsets", Parts: 2, Compact: true}, {Name: "_offsets", Parts: 1}, {Name: "_offset", Parts: 1, Compact: true}} {
		odd, _ := zone.New(8, 8)
		j, _ := journal.Format(odd)
		j.Add(m)
		if x, e := broker.Open(odd, free); x != nil || e != api.ErrForm {
			t.Error(i, e)
		}
	}
	for after := range 6 {
		d.Fail(after, true)
		if x, e := broker.Format(d, free); x != nil || e != api.ErrDown {
			t.Error(after, e)
		}
		d.Crash(nil)
	}
	d, x := fresh(t, 8, 8, free)
	if s := x.State(); len(s.Topics) != 1 || s.Topics[0] != (api.Topic{Name: "_offsets", Parts: 1, Compact: true}) {
		t.Error(s)
	}
	ok(t, x, create("t", 1, false))
	ok(t, x, produce("t", keyed("k")))
	d.Fail(0, true)
	d.Flush()
	if x, e := broker.Open(d, free); x != nil || e != api.ErrDown {
		t.Error(e)
	}
}

// P24.2
func TestDo(t *testing.T) {
	_, x := fresh(t, 8, 8, free)
	bytes, _ := wire.PutRequest(create("t", 2, false))
	a, e := wire.GetResponse(x.Do(bytes))
	if e != api.OK || !wire.SameResponse(a, api.Response{Kind: api.Create, Offset: 1}) {
		t.Error(a, e)
	}
	a, e = wire.GetResponse(x.Do(bytes[1:]))
	if e != api.OK || !wire.SameResponse(a, api.Response{Kind: 255, Err: api.ErrForm}) {
		t.Error(a, e)
	}
	var none *broker.Broker
	a, e = wire.GetResponse(none.Do(bytes))
	if want := (api.Response{Kind: 255, Err: api.ErrNil}); e != api.OK || !wire.SameResponse(a, want) || !wire.SameResponse(none.Ask(api.Request{}), want) {
		t.Error(a, e)
	}
}

// P24.3
func TestTopics(t *testing.T) {
	_, x := fresh(t, 8, 16, free)
	if a := x.Ask(api.Request{Kind: 12}); !wire.SameResponse(a, api.Response{Kind: 255, Err: api.ErrKind}) {
		t.Error(a)
	}
	for _, name := range []string{"", "_t", "a b", "_offsets", strings.Repeat("x", 33)} {
		refuses(t, x, create(name, 0, false), api.ErrName)
	}
	refuses(t, x, create("t", 0, false), api.ErrRange)
	refuses(t, x, create("t", 9, false), api.ErrRange)
	asks(t, x, create("t", 2, false), api.Response{Offset: 1})
	refuses(t, x, create("t", 2, false), api.ErrThere)
	asks(t, x, create("u", 1, true), api.Response{Offset: 2})
	ok(t, x, api.Request{Kind: api.Produce, Topic: "t", Index: 1, Batch: api.Batch{Count: 3}})
	asks(t, x, api.Request{Kind: api.Describe, Topic: "t"}, api.Response{Offset: 1, Next: 2, Parts: []int{0, 0, 0, 3}, Names: []string{"t"}})
	asks(t, x, api.Request{Kind: api.Describe, Topic: "_offsets"}, api.Response{Next: 1, Parts: []int{0, 0}, Names: []string{"_offsets"}})
	refuses(t, x, api.Request{Kind: api.Remove, Topic: "_offsets"}, api.ErrName)
	refuses(t, x, api.Request{Kind: api.Remove, Topic: "_v"}, api.ErrName)
	refuses(t, x, api.Request{Kind: api.Describe, Topic: "_v"}, api.ErrNone)
	refuses(t, x, api.Request{Kind: api.Remove, Topic: "v"}, api.ErrNone)
	asks(t, x, api.Request{Kind: api.Remove, Topic: "t"}, api.Response{})
	refuses(t, x, api.Request{Kind: api.Describe, Topic: "t"}, api.ErrNone)
	if _, there := x.Part(api.Part{Topic: 1}); there {
		t.Error("the part is there")
	}
	asks(t, x, create("t", 1, false), api.Response{Offset: 3})
	asks(t, x, api.Request{Kind: api.Describe, Topic: "t"}, api.Response{Offset: 3, Next: 1, Parts: []int{0, 0}, Names: []string{"t"}})
	for i := range 13 {
		ok(t, x, create("n"+strconv.Itoa(i), 1, false))
	}
	refuses(t, x, create("t", 1, false), api.ErrFull)
}

// P24.3
func TestNamesOfRequests(t *testing.T) {
	_, x := fresh(t, 8, 16, free)
	ok(t, x, create("t", 2, false))
	for _, kind := range []uint8{api.Produce, api.Fetch, api.ByTime, api.Commit, api.Committed, api.Sync} {
		reserved := api.ErrName
		if kind == api.Fetch {
			reserved = api.ErrArg // Most is 0
		}
		refuses(t, x, api.Request{Kind: kind, Topic: "_offsets"}, reserved)
		refuses(t, x, api.Request{Kind: kind, Topic: "v"}, api.ErrNone)
		refuses(t, x, api.Request{Kind: kind}, api.ErrNone)
		if kind != api.Sync {
			refuses(t, x, api.Request{Kind: kind, Topic: "t", Index: 2, Offset: -1}, api.ErrNone)
			refuses(t, x, api.Request{Kind: kind, Topic: "t", Index: -1, Offset: -1}, api.ErrNone)
		}
	}
	asks(t, x, api.Request{Kind: api.Fetch, Topic: "_offsets", Most: 1}, api.Response{})
	asks(t, x, api.Request{Kind: api.Describe, Topic: "t", Index: 9}, api.Response{Offset: 1, Next: 2, Parts: []int{0, 0, 0, 0}, Names: []string{"t"}}) // what a kind does not use is not looked at
	asks(t, x, api.Request{Kind: api.Join, Topic: "_v", Group: strings.Repeat("g", 20), Member: "m"}, api.Response{Gen: 1, Names: []string{"m"}})
}

// P24.3
func TestProduceAndFetch(t *testing.T) {
	c := free
	c.Size, c.Rate = 10, 2
	_, x := fresh(t, 8, 16, c)
	ok(t, x, create("t", 1, false))
	of := func(seq, count int) api.Request {
		return api.Request{Kind: api.Produce, Topic: "t", Batch: api.Batch{Base: 77, Count: count, Producer: 7, Seq: seq}}
	}
	refuses(t, x, of(0, 11), api.ErrQuota)
	refuses(t, x, of(0, 99), api.ErrQuota)
	refuses(t, x, of(0, -5), api.ErrRange)
	poor := c
	poor.Size, poor.Rate = 0, 0
	_, y := fresh(t, 8, 16, poor)
	ok(t, y, create("t", 1, false))
	refuses(t, y, of(0, -5), api.ErrRange)
	refuses(t, y, of(0, 0), api.ErrRange)
	refuses(t, y, of(0, 1), api.ErrQuota)
	refuses(t, x, of(1, 5), api.ErrOrder)
	asks(t, x, of(0, 6), api.Response{Next: 6})
	asks(t, x, of(6, 1), api.Response{Offset: 6, Next: 7})
	asks(t, x, of(6, 1), api.Response{Offset: 6, Next: 7, Double: true})
	asks(t, x, of(6, 1), api.Response{Offset: 6, Next: 7, Double: true})
	refuses(t, x, of(0, 6), api.ErrQuota) // 3 are left
	refuses(t, x, of(7, 4), api.ErrQuota)
	x.Tick(1)
	asks(t, x, of(7, 4), api.Response{Offset: 7, Next: 11})
	x.Tick(100)
	for i := range 20 {
		x.Tick(101 + i)
		ok(t, x, of(11+i, 1))
	}
	refuses(t, x, api.Request{Kind: api.Fetch, Topic: "t", Offset: -1}, api.ErrArg)
	refuses(t, x, api.Request{Kind: api.Fetch, Topic: "t", Offset: -1, Most: 1}, api.ErrOffset)
	refuses(t, x, api.Request{Kind: api.Fetch, Topic: "t", Offset: 32, Most: 1}, api.ErrOffset)
	a := ok(t, x, api.Request{Kind: api.Fetch, Topic: "t", Offset: 1, Most: math.MaxInt})
	if len(a.Batches) != 16 || a.Offset != 0 || a.Next != 31 || a.Batches[0].Base != 0 {
		t.Error(a)
	}
	a = ok(t, x, api.Request{Kind: api.Fetch, Topic: "t", Offset: 7, Most: 1})
	if len(a.Batches) != 1 || a.Batches[0].Base != 7 || a.Batches[0].Producer != 7 {
		t.Error(a)
	}
	asks(t, x, api.Request{Kind: api.Fetch, Topic: "t", Offset: 31, Most: 1}, api.Response{Next: 31})
}

// P24.3
func TestByTime(t *testing.T) {
	_, x := fresh(t, 8, 16, free)
	ok(t, x, create("t", 1, false))
	for _, time := range []int{5, 9, 7} {
		b := keyed("k")
		b.Records[0].Time = time
		ok(t, x, produce("t", b))
	}
	for time, want := range map[int]api.Response{0: {Double: true, Next: 3}, 6: {Offset: 1, Double: true, Next: 3}, 10: {Offset: 3, Next: 3}, math.MinInt: {Double: true, Next: 3}} {
		asks(t, x, api.Request{Kind: api.ByTime, Topic: "t", Time: time}, want)
	}
}

// P24.3
func TestGroups(t *testing.T) {
	_, x := fresh(t, 8, 16, free)
	ok(t, x, create("t", 3, false))
	join := func(g, m string) api.Request { return api.Request{Kind: api.Join, Group: g, Member: m} }
	sync := func(m string, gen int) api.Request {
		return api.Request{Kind: api.Sync, Topic: "t", Group: "g", Member: m, Gen: gen}
	}
	for _, name := range []string{"", strings.Repeat("g", 21)} {
		refuses(t, x, join(name, "a"), api.ErrName)
		refuses(t, x, api.Request{Kind: api.Leave, Group: name, Member: "a"}, api.ErrName)
	}
	refuses(t, x, join("g", ""), api.ErrName)
	refuses(t, x, api.Request{Kind: api.Leave, Group: "g", Member: "a"}, api.ErrMember)
	refuses(t, x, api.Request{Kind: api.Beat, Group: "g", Member: "a"}, api.ErrMember)
	refuses(t, x, sync("a", 1), api.ErrMember)
	if _, there := x.Group("g"); there {
		t.Error("the group is there")
	}
	asks(t, x, join("g", "b"), api.Response{Gen: 1, Names: []string{"b"}})
	asks(t, x, join("g", "a"), api.Response{Gen: 2, Names: []string{"a", "b"}})
	asks(t, x, join("g", "a"), api.Response{Gen: 2, Names: []string{"a", "b"}})
	asks(t, x, sync("a", 2), api.Response{Gen: 2, Parts: []int{0, 1}})
	asks(t, x, sync("b", 2), api.Response{Gen: 2, Parts: []int{2}})
	if g, there := x.Group("g"); !there || g.Phase != group.Stable {
		t.Error(g)
	}
	asks(t, x, join("g", "c"), api.Response{Gen: 3, Names: []string{"a", "b", "c"}})
	refuses(t, x, sync("a", 2), api.ErrGen)
	refuses(t, x, api.Request{Kind: api.Beat, Group: "g", Member: "a", Gen: 2}, api.ErrGen)
	refuses(t, x, api.Request{Kind: api.Beat, Group: "g", Member: "z", Gen: 3}, api.ErrMember)
	x.Tick(8)
	asks(t, x, api.Request{Kind: api.Beat, Group: "g", Member: "a", Gen: 3}, api.Response{Gen: 3})
	if g, _ := x.Group("g"); g.Members[0].Seen != 8 || g.Members[1].Seen != 0 {
		t.Error(g)
	}
	refuses(t, x, api.Request{Kind: api.Leave, Group: "g", Member: "z"}, api.ErrMember)
	asks(t, x, api.Request{Kind: api.Leave, Group: "g", Member: "b"}, api.Response{Gen: 4, Names: []string{"a", "c"}})
	for i := range 15 {
		ok(t, x, join("g"+strconv.Itoa(i), "a"))
	}
	refuses(t, x, join("h", "a"), api.ErrFull)
	ok(t, x, join("g", "d"))
}

// P24.3, P24.6
func TestCommits(t *testing.T) {
	d, x := fresh(t, 8, 16, free)
	ok(t, x, create("t", 2, false))
	for range 3 {
		ok(t, x, produce("t", keyed("k")))
	}
	ok(t, x, api.Request{Kind: api.Join, Group: "g", Member: "a"})
	of := func(gen, offset int) api.Request {
		return api.Request{Kind: api.Commit, Topic: "t", Group: "g", Member: "a", Gen: gen, Offset: offset}
	}
	committed := api.Request{Kind: api.Committed, Topic: "t", Group: "g"}
	asks(t, x, committed, api.Response{})
	strange := of(1, 1)
	strange.Group = "h"
	refuses(t, x, strange, api.ErrMember)
	refuses(t, x, of(2, -1), api.ErrGen)
	refuses(t, x, of(1, -1), api.ErrOffset)
	refuses(t, x, of(1, 4), api.ErrOffset)
	x.Tick(5)
	asks(t, x, of(1, 3), api.Response{})
	if g, _ := x.Group("g"); g.Members[0].Seen != 5 {
		t.Error(g)
	}
	asks(t, x, committed, api.Response{Offset: 3, Double: true})
	asks(t, x, of(1, 0), api.Response{})
	asks(t, x, committed, api.Response{Offset: 0, Double: true})
	asks(t, x, api.Request{Kind: api.Committed, Topic: "t", Index: 1, Group: "g"}, api.Response{})
	want := []commit.Commit{{Group: "g", Topic: "t"}}
	p, there := x.Part(api.Part{})
	if !there || p.Next() != 2 || p.Safe() != 2 || p.Batches()[0].Records[0].Time != 5 || !commit.Same(x.Commits(), want) {
		t.Error(x.Commits())
	}
	d.Crash(nil)
	y, e := broker.Open(d, free)
	if e != api.OK || !commit.Same(y.Commits(), want) || y.Now() != 0 {
		t.Error(e)
	}
	if _, there := y.Group("g"); there {
		t.Error("groups are kept")
	}
}

// P24.3: without a free zone nothing changes.
func TestFull(t *testing.T) {
	d, x := fresh(t, 4, 4, free)
	ok(t, x, create("t", 1, false))
	for range 4 {
		ok(t, x, produce("t", keyed("k")))
	}
	refuses(t, x, produce("t", keyed("k")), api.ErrFull)
	ok(t, x, api.Request{Kind: api.Join, Group: "g", Member: "a"})
	x.Tick(9)
	refuses(t, x, api.Request{Kind: api.Commit, Topic: "t", Group: "g", Member: "a", Gen: 1, Offset: 1}, api.ErrFull)
	if g, _ := x.Group("g"); g.Members[0].Seen != 0 || len(x.Commits()) != 0 || x.Bad() {
		t.Error("changed", g)
	}
	asks(t, x, api.Request{Kind: api.Describe, Topic: "t"}, api.Response{Offset: 1, Next: 1, Parts: []int{0, 4}, Names: []string{"t"}})
	ok(t, x, api.Request{Kind: api.Remove, Topic: "t"})
	if did, e := x.Work(); !did || e != api.OK || d.Written(2) != 0 {
		t.Error(did, e)
	}
	ok(t, x, create("u", 1, false))
	asks(t, x, produce("u", keyed("k")), api.Response{Next: 1})
}

// P24.3
func TestBad(t *testing.T) {
	d, x := fresh(t, 8, 16, free)
	ok(t, x, create("t", 1, false))
	d.Fail(1, false)
	refuses(t, x, produce("t", keyed("k")), api.ErrDown)
	if did, e := x.Work(); !x.Bad() || did || e != api.ErrState {
		t.Error(e)
	}
	d.Crash(nil)
	d.Finish(7)
	if did, e := x.Work(); did || e != api.ErrState || d.State(7) != zone.Full {
		t.Error("works", e)
	}
	refuses(t, x, api.Request{Kind: api.Describe, Topic: "v"}, api.ErrState)
	refuses(t, x, api.Request{Kind: api.Beat}, api.ErrState)
	if a := x.Ask(api.Request{Kind: 99}); a.Err != api.ErrKind {
		t.Error(a)
	}
	if y, e := broker.Open(d, free); e != api.OK || y.Bad() {
		t.Error(e)
	}
}

// P24.4
func TestTick(t *testing.T) {
	c := free
	c.Patience = 10
	_, x := fresh(t, 8, 16, c)
	ok(t, x, api.Request{Kind: api.Join, Group: "g", Member: "a"})
	if x.Tick(-1) != api.ErrRange || x.Tick(5) != api.OK || x.Tick(4) != api.ErrRange || x.Tick(5) != api.OK || x.Tick(api.MaxTime+1) != api.ErrRange || x.Now() != 5 {
		t.Error(x.Now())
	}
	ok(t, x, api.Request{Kind: api.Join, Group: "g", Member: "b"})
	x.Tick(10)
	if g, _ := x.Group("g"); len(g.Members) != 2 {
		t.Error(g)
	}
	x.Tick(11)
	if g, _ := x.Group("g"); g.Gen != 3 || !slices.Equal(group.Names(g), []string{"b"}) {
		t.Error(g)
	}
	if x.Tick(api.MaxTime) != api.OK {
		t.Error("the last time")
	}
	if g, there := x.Group("g"); !there || len(g.Members) != 0 || g.Phase != group.Empty {
		t.Error(g)
	}
}

// P24.5
func TestWork(t *testing.T) {
	c := free
	c.Blocks = 6
	_, x := fresh(t, 20, 4, c)
	ok(t, x, create("t", 1, false))
	ok(t, x, create("k", 1, true))
	if did, e := x.Work(); did || e != api.OK {
		t.Error(did, e)
	}
	for i := range 7 {
		ok(t, x, produce("t", keyed("k")))
		ok(t, x, produce("k", keyed(strconv.Itoa(i%2))))
	}
	// first retention (14 blocks are there, 6 may be), then the zones that wait, then compaction, then the zones again
	for i, c := range []struct{ start, kept int }{{4, 7}, {4, 7}, {4, 7}, {4, 3}, {4, 3}} {
		did, e := x.Work()
		p, _ := x.Part(api.Part{Topic: 1})
		k, _ := x.Part(api.Part{Topic: 2})
		if !did || e != api.OK || p.Start() != c.start || len(k.Batches()) != c.kept || k.Start() != 0 {
			t.Error(i, did, e, p.Start(), len(k.Batches()))
		}
	}
	k, _ := x.Part(api.Part{Topic: 2})
	if l := offsets(k.Batches()); !slices.Equal(l, []int{4, 5, 6}) {
		t.Error(l)
	}
	for range 2 {
		x.Work()
	}
	if did, e := x.Work(); did || e != api.OK {
		t.Error(did, e)
	}
	refuses(t, x, api.Request{Kind: api.Fetch, Topic: "t", Offset: 3, Most: 1}, api.ErrOffset)
	ok(t, x, produce("t", keyed("k")))
	ok(t, x, produce("t", keyed("k")))
	if did, e := x.Work(); !did || e != api.OK { // one segment goes
		t.Error(did, e)
	}
	var none *broker.Broker
	if did, e := none.Work(); did || e != api.ErrNil || none.Tick(0) != api.ErrNil {
		t.Error(did, e)
	}
}

// P24.5: dead records of compacted topics go, when they are late.
func TestGrace(t *testing.T) {
	c := free
	c.Grace = 10
	_, x := fresh(t, 20, 4, c)
	ok(t, x, create("k", 1, true))
	dead := api.Batch{Count: 1, Records: []api.Record{{Time: 5, Keyed: true, Key: "a", Dead: true}}}
	for _, b := range []api.Batch{keyed("a"), dead, keyed("b"), keyed("c"), keyed("d"), keyed("e")} {
		ok(t, x, produce("k", b))
	}
	k, _ := x.Part(api.Part{Topic: 1})
	for _, now := range []int{15, 16} {
		x.Tick(now)
		for did := true; did; {
			did, _ = x.Work()
		}
		if l := offsets(k.Batches()); slices.Contains(l, 1) != (now == 15) || slices.Contains(l, 0) {
			t.Error(now, l)
		}
	}
}

// P24.6
func TestNil(t *testing.T) {
	_, x := fresh(t, 8, 8, free)
	s, l := x.State(), x.Commits()
	s.Topics[0].Name = "z"
	if x.State().Topics[0].Name != "_offsets" || len(l) != 0 {
		t.Error("shared")
	}
	ok(t, x, api.Request{Kind: api.Join, Group: "g", Member: "a"})
	g, _ := x.Group("g")
	g.Members[0].ID = "z"
	if g, _ := x.Group("g"); g.Members[0].ID != "a" {
		t.Error("shared")
	}
	if p, there := x.Part(api.Part{Topic: 9}); p != nil || there {
		t.Error("no such part")
	}
	var none *broker.Broker
	p, there := none.Part(api.Part{})
	_, grouped := none.Group("g")
	if p != nil || there || grouped || len(none.State().Topics) != 0 || none.Commits() != nil || none.Now() != 0 || none.Bad() {
		t.Error("nil")
	}
}
