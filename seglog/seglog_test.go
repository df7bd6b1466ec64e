package seglog_test

import (
	"math"
	"math/rand/v2"
	"slices"
	"strings"
	"testing"

	"bilander/api"
	"bilander/batch"
	"bilander/frame"
	"bilander/journal"
	"bilander/seglog"
	"bilander/segment"
	"bilander/state"
	"bilander/zone"
)

var first = api.Part{}

func fresh(t *testing.T, zones, blocks int) (*zone.Dev, *journal.Journal, *seglog.Log) {
	t.Helper()
	d, _ := zone.New(zones, blocks)
	j, _ := journal.Format(d)
	if e := j.Add(api.Meta{Kind: api.Makes, Name: "a", Parts: 2}); e != api.OK {
		t.Fatal(e)
	}
	l, e := seglog.Open(d, j, first)
	if e != api.OK {
		t.Fatal(e)
	}
	return d, j, l
}

// of tells a batch of one record, whose value has so many bytes.
func of(base, value int) api.Batch {
	return api.Batch{Base: base, Count: 1, Records: []api.Record{{Time: base, Value: strings.Repeat("v", value)}}}
}

// two is a value with which a batch needs 2 blocks.
const two = 60

func appends(t *testing.T, l *seglog.Log, n int, flush bool) {
	t.Helper()
	for range n {
		if e := l.Append(of(l.Next(), two), flush); e != api.OK {
			t.Fatal(e)
		}
	}
}

func all(l *seglog.Log) []api.Batch {
	var out []api.Batch
	for _, s := range l.Segments() {
		out = append(out, s.List...)
	}
	return out
}

func chain(j *journal.Journal) []api.Link {
	c, _ := state.Chain(j.State(), first)
	return c.Links
}

func prefix(a, b []api.Batch) bool {
	return len(a) <= len(b) && slices.EqualFunc(a, b[:len(a)], batch.Same)
}

// P15.1
func TestOpen(t *testing.T) {
	d, j, l := fresh(t, 8, 4)
	if l, e := seglog.Open(nil, j, first); l != nil || e != api.ErrNil {
		t.Error(e)
	}
	if l, e := seglog.Open(d, nil, first); l != nil || e != api.ErrNil {
		t.Error(e)
	}
	for _, p := range []api.Part{{Topic: 1}, {Index: 2}, {Index: -1}} {
		if l, e := seglog.Open(d, j, p); l != nil || e != api.ErrNone {
			t.Error(p, e)
		}
	}
	appends(t, l, 3, true)
	again, e := seglog.Open(d, j, first)
	if e != api.OK || again.Next() != 3 || again.Safe() != 3 || len(again.Segments()) != 2 || again.Sealed() {
		t.Error(e, again.Next())
	}
	d.Fail(0, true)
	if l.Append(of(3, 1), true) != api.ErrDown || !l.Bad() {
		t.Error("down")
	}
	if l, e := seglog.Open(d, j, first); l != nil || e != api.ErrDown {
		t.Error(e)
	}
	d.Crash(nil)
	_, e = l.Fetch(0, 1)
	for i, e := range []api.Errno{l.Append(api.Batch{}, true), l.Flush(), e, l.Drop(-1), l.Drop(0), l.Swap(-1, nil)} {
		if e != api.ErrState {
			t.Error(i, e)
		}
	}
	var none *seglog.Log
	_, e = none.Fetch(0, 1)
	for i, e := range []api.Errno{none.Append(of(0, 1), true), none.Flush(), e, none.Drop(0), none.Swap(1, nil)} {
		if e != api.ErrNil {
			t.Error(i, e)
		}
	}
}

// P15.2
func TestAppend(t *testing.T) {
	d, j, l := fresh(t, 8, 4)
	if l.Append(of(0, 600), true) != api.ErrLong || l.Append(of(-1, 1), true) != api.ErrRange || l.Append(of(1, 1), true) != api.ErrOrder || len(chain(j)) != 0 {
		t.Error("errors")
	}
	if e := l.Append(of(0, 300), true); e != api.ErrLong { // 6 blocks
		t.Error(e)
	}
	if !l.Sealed() || l.Append(of(0, two), false) != api.OK || l.Sealed() || l.Safe() != 0 || l.Next() != 1 || d.Loose(2) != 2 {
		t.Error("first")
	}
	if l.Append(of(1, two), true) != api.OK || l.Safe() != 2 || !l.Sealed() || d.Loose(2) != 0 || d.Written(2) != 4 {
		t.Error("flushed")
	}
	ops := d.Ops()
	if l.Append(of(2, two), false) != api.OK || l.Safe() != 2 || d.Ops() != ops+1+2+2 || !slices.Equal(chain(j), []api.Link{{Zone: 2}, {Zone: 3, Base: 2}}) {
		t.Error("rolled", d.Ops()-ops, chain(j))
	}
	if l.Append(of(3, 1), false) != api.OK || l.Append(of(4, two), false) != api.OK || l.Safe() != 4 || d.State(3) != zone.Full || d.Written(3) != 3 || d.Loose(4) != 2 {
		t.Error("rolled ahead of the end", l.Safe())
	}
	if l.Flush() != api.OK || l.Safe() != 5 || d.Loose(4) != 0 {
		t.Error("flush")
	}
	mine := of(5, 1)
	l.Append(mine, true)
	mine.Records[0].Value = "changed"
	if got := all(l); got[5].Records[0].Value != "v" {
		t.Error("shared")
	}
}

// P15.2
func TestNoZone(t *testing.T) {
	d, j, l := fresh(t, 4, 4)
	appends(t, l, 4, true)
	before := all(l)
	if l.Append(of(4, two), true) != api.ErrFull || !l.Sealed() || l.Bad() || l.Next() != 4 || !slices.EqualFunc(all(l), before, batch.Same) || len(chain(j)) != 2 {
		t.Error("full")
	}
	if l.Drop(1) != api.OK || d.Reset(2) != api.OK || l.Append(of(4, two), true) != api.OK || l.Next() != 5 {
		t.Error("goes on")
	}
	d, _, l = fresh(t, 20, 4)
	for z := 3; z < 15; z++ {
		d.Append(z, make([]byte, 64))
	}
	if l.Append(of(0, 1), true) != api.ErrOpen || l.Bad() || len(l.Segments()) != 0 {
		t.Error("open")
	}
}

// P15.2, P15.5: what has just room.
func TestJustRoom(t *testing.T) {
	d, j, l := fresh(t, 12, 4)
	if l.Append(of(0, 221), true) != api.OK || d.Written(2) != 4 || l.Append(of(1, 222), true) != api.ErrLong {
		t.Error(d.Written(2))
	}
	appends(t, l, 5, true)
	if e := l.Swap(2, []api.Batch{of(0, 221)}); e != api.OK || d.Written(chain(j)[0].Zone) != 4 {
		t.Error(e)
	}
	if e := l.Swap(2, []api.Batch{of(0, 221), of(1, 1)}); e != api.ErrLong {
		t.Error(e)
	}
}

// P15.5: the power fails at each step of a Swap.
func TestSwapFails(t *testing.T) {
	for _, list := range [][]api.Batch{nil, {of(0, 1)}} {
		for after := range 2 + 3*len(list) {
			d, j, l := fresh(t, 12, 4)
			appends(t, l, 5, true)
			old := all(l)
			d.Fail(after, false)
			if l.Swap(1, list) != api.ErrDown || !l.Bad() || len(chain(j)) != 3 || !slices.EqualFunc(all(l), old, batch.Same) {
				t.Error(after, len(chain(j)))
			}
		}
	}
}

func put(d *zone.Dev, z int, bodies ...[]byte) {
	for _, b := range bodies {
		l, _ := frame.Lay(b)
		for _, x := range l {
			d.Append(z, x)
		}
	}
}

// P15.1: a link's batches end where a body is none, or may not stand there.
func TestWhatAZoneHolds(t *testing.T) {
	bytes := func(b api.Batch) []byte {
		out, _ := batch.Put(b)
		return out
	}
	for i, c := range []struct {
		bodies [][]byte
		next   int
		sealed bool
	}{
		{nil, 4, false}, {[][]byte{bytes(of(4, 1)), bytes(of(9, 1))}, 10, false}, {[][]byte{bytes(of(3, 1)), bytes(of(9, 1))}, 4, true},
		{[][]byte{bytes(of(4, 1)), bytes(of(4, 1)), bytes(of(9, 1))}, 5, true}, {[][]byte{bytes(of(4, 1)), []byte("none"), bytes(of(9, 1))}, 5, true},
	} {
		d, j, _ := fresh(t, 8, 8)
		j.Add(api.Meta{Kind: api.Links, Zone: 5, Base: 4})
		put(d, 5, c.bodies...)
		l, e := seglog.Open(d, j, first)
		if e != api.OK || l.Next() != c.next || l.Sealed() != c.sealed || l.Segments()[0].Base != 4 {
			t.Error(i, e, l.Next(), l.Sealed())
		}
		if e := l.Append(of(c.next, 1), true); e != api.OK || (len(chain(j)) == 2) != c.sealed {
			t.Error(i, e, chain(j))
		}
	}
}

// P15.2: a torn block seals the log.
func TestTorn(t *testing.T) {
	d, j, l := fresh(t, 8, 8)
	appends(t, l, 1, true)
	appends(t, l, 1, false)
	d.Crash([]byte{1, 20})
	l, e := seglog.Open(d, j, first)
	if e != api.OK || l.Next() != 1 || !l.Sealed() || l.Append(of(1, 1), true) != api.OK || d.State(2) != zone.Full || len(chain(j)) != 2 {
		t.Error(e, l.Next())
	}
	again, _ := seglog.Open(d, j, first)
	if again.Next() != 2 || again.Sealed() || !slices.EqualFunc(all(again), all(l), batch.Same) {
		t.Error(again.Next())
	}
}

// P15.3
func TestFetch(t *testing.T) {
	_, _, l := fresh(t, 8, 4)
	appends(t, l, 5, false)
	l.Append(api.Batch{Base: 5, Count: 3, Records: []api.Record{{Delta: 0}, {Delta: 2}}}, false)
	for _, c := range []struct {
		offset, most, first, n int
		e                      api.Errno
	}{
		{0, 99, 0, 6, api.OK}, {1, 3, 1, 3, api.OK}, {0, 3, 0, 3, api.OK}, {0, 1, 0, 1, api.OK}, {0, 2, 0, 2, api.OK}, {6, 9, 5, 1, api.OK}, {8, 9, 0, 0, api.OK}, {9, 9, 0, 0, api.ErrOffset}, {-1, 9, 0, 0, api.ErrOffset},
		{0, 0, 0, 0, api.OK}, {0, -1, 0, 0, api.OK}, {math.MaxInt, math.MaxInt, 0, 0, api.ErrOffset},
	} {
		b, e := l.Fetch(c.offset, c.most)
		if e != c.e || len(b) != c.n || c.n > 0 && b[0].Base != c.first {
			t.Error(c, e, b)
		}
	}
	if b, _ := l.Fetch(6, 9); len(b[0].Records) != 1 || b[0].Records[0].Delta != 2 {
		t.Error(b)
	}
	l.Drop(1)
	if b, e := l.Fetch(1, 9); b != nil || e != api.ErrOffset {
		t.Error(e)
	}
}

// P15.4
func TestDrop(t *testing.T) {
	d, j, l := fresh(t, 8, 4)
	if l.Drop(0) != api.OK || l.Drop(1) != api.ErrArg {
		t.Error("nothing to drop")
	}
	appends(t, l, 7, true)
	ops := d.Ops()
	if l.Drop(-1) != api.ErrArg || l.Drop(4) != api.ErrArg || l.Drop(0) != api.OK || d.Ops() != ops {
		t.Error("arguments")
	}
	if l.Drop(2) != api.OK || l.Start() != 4 || l.Next() != 7 || len(l.Segments()) != 2 || !slices.Equal(chain(j), []api.Link{{Zone: 4, Base: 4}, {Zone: 5, Base: 6}}) || d.Written(2) != 4 {
		t.Error(l.Start(), chain(j))
	}
	j.Add(api.Meta{Kind: api.Begins, Base: 6})
	before, ops := j.State(), d.Ops()
	if l.Drop(1) != api.OK || d.Ops() != ops+2 || l.Start() != 6 || !slices.Equal(chain(j), []api.Link{{Zone: 5, Base: 6}}) || state.Same(before, j.State()) {
		t.Error(l.Start(), chain(j))
	}
}

// P15.5
func TestSwapErrors(t *testing.T) {
	d, j, l := fresh(t, 8, 4)
	appends(t, l, 7, true)
	old := all(l)
	for i, c := range []struct {
		n    int
		list []api.Batch
		e    api.Errno
	}{
		{0, nil, api.ErrArg}, {-1, nil, api.ErrArg}, {4, nil, api.ErrArg}, {1, []api.Batch{of(-1, 1)}, api.ErrArg}, {1, []api.Batch{of(1, 1), of(0, 1)}, api.ErrArg},
		{1, []api.Batch{of(0, 1), of(1, 1), of(2, 1)}, api.ErrArg}, {3, old[:6], api.ErrLong},
	} {
		if e := l.Swap(c.n, c.list); e != c.e || !slices.EqualFunc(all(l), old, batch.Same) || len(chain(j)) != 4 {
			t.Error(i, e)
		}
	}
	d.Append(6, make([]byte, 64))
	d.Append(7, make([]byte, 64))
	if e := l.Swap(2, old[:1]); e != api.ErrFull || !slices.EqualFunc(all(l), old, batch.Same) || l.Bad() {
		t.Error(e)
	}
}

// P15.5
func TestSwap(t *testing.T) {
	d, j, l := fresh(t, 12, 4)
	appends(t, l, 7, true)
	old := all(l)
	list := []api.Batch{of(1, 1), of(3, two)}
	if e := l.Swap(2, list); e != api.OK || !slices.Equal(chain(j), []api.Link{{Zone: 6}, {Zone: 4, Base: 4}, {Zone: 5, Base: 6}}) || d.State(6) != zone.Full || d.Written(6) != 3 || d.Loose(6) != 0 {
		t.Error(e, chain(j))
	}
	list[0].Records[0].Value = "changed"
	want := append([]api.Batch{of(1, 1), of(3, two)}, old[4:]...)
	again, _ := seglog.Open(d, j, first)
	if !slices.EqualFunc(all(l), want, batch.Same) || !slices.EqualFunc(all(again), want, batch.Same) || l.Start() != 0 || l.Next() != 7 {
		t.Error(all(l))
	}
	if e := l.Swap(2, nil); e != api.OK || !slices.Equal(chain(j), []api.Link{{Zone: 5, Base: 6}}) || !slices.EqualFunc(all(l), old[6:], batch.Same) || l.Start() != 0 {
		t.Error(e, chain(j))
	}
	if b, e := l.Fetch(0, 9); e != api.OK || !slices.EqualFunc(b, old[6:], batch.Same) {
		t.Error(b, e)
	}
}

// P15.6
func TestLooks(t *testing.T) {
	d, j, l := fresh(t, 12, 4)
	if len(l.Segments()) != 0 || l.Start() != 0 || l.Next() != 0 || l.Safe() != 0 || !l.Sealed() || l.Bad() {
		t.Error("empty")
	}
	j.Add(api.Meta{Kind: api.Begins, Base: 9})
	if l.Start() != 9 || l.Next() != 9 || l.Append(of(9, 1), true) != api.OK || chain(j)[0] != (api.Link{Zone: 2, Base: 9}) {
		t.Error("begins elsewhere")
	}
	s := l.Segments()
	s[0].List[0].Records[0].Value = "changed"
	if !slices.EqualFunc(all(l), []api.Batch{of(9, 1)}, batch.Same) {
		t.Error("shared")
	}
	other, _ := seglog.Open(d, j, api.Part{Index: 1})
	if other.Append(of(0, 1), true) != api.OK || l.Next() != 10 || len(l.Segments()) != 1 || other.Next() != 1 {
		t.Error("another part")
	}
	j.Add(api.Meta{Kind: api.Links, Zone: 7, Base: 10})
	d.Finish(7)
	if !l.Sealed() {
		t.Error("the zone from elsewhere is full")
	}
	d.Reset(7)
	if len(l.Segments()) != 2 || l.Append(of(10, 1), true) != api.OK || d.Written(7) != 1 {
		t.Error("a link from elsewhere")
	}
	j.Add(api.Meta{Kind: api.Unlinks, Zone: 2})
	if len(l.Segments()) != 1 || l.Next() != 11 {
		t.Error("unlinked elsewhere")
	}
	j.Add(api.Meta{Kind: api.Deletes})
	if e := l.Append(of(l.Next(), 1), true); e != api.ErrNone || l.Bad() {
		t.Error("gone", e)
	}
	var none *seglog.Log
	if none.Segments() != nil || none.Start() != 0 || none.Next() != 0 || none.Safe() != 0 || none.Sealed() || none.Bad() {
		t.Error("nil")
	}
}

// step does something by chance; it tells what the log would have if that was done.
func step(r *rand.Rand, l *seglog.Log) []api.Batch {
	had := all(l)
	segs := l.Segments()
	switch n := len(segs); {
	case n > 1 && r.IntN(6) == 0:
		k := 1 + r.IntN(n-1)
		rest := had[len(had)-len(slices.Concat(lists(segs[k:])...)):]
		if l.Drop(k) == api.OK {
			return rest
		}
	case n > 1 && r.IntN(6) == 0:
		k := 1 + r.IntN(n-1)
		rest := slices.Concat(lists(segs[k:])...)
		var list []api.Batch
		for i, b := range slices.Concat(lists(segs[:k])...) {
			if i%2 == 0 && len(list) < 2 {
				list = append(list, b)
			}
		}
		l.Swap(k, list)
		return append(list, rest...)
	case r.IntN(8) == 0:
		l.Flush()
	default:
		b := of(l.Next(), r.IntN(100))
		l.Append(b, r.IntN(3) == 0)
		return append(had[:len(had):len(had)], b)
	}
	return had
}

func lists(segs []segment.Segment) [][]api.Batch {
	var out [][]api.Batch
	for _, s := range segs {
		out = append(out, s.List)
	}
	return out
}

// kept tells whether a log that was opened again is one that it may be: batches from some segment on, up to some batch.
func kept(got, had []api.Batch, safe int) bool {
	for from := range len(had) + 1 {
		if prefix(got, had[from:]) {
			end := from + len(got)
			return end == len(had) || had[end].Base >= safe
		}
	}
	return false
}

// P15.7
func TestWhereverThePowerFails(t *testing.T) {
	r := rand.New(rand.NewPCG(15, 15))
	for range 1500 {
		d, j, l := fresh(t, 24, 4)
		d.Fail(r.IntN(80), r.IntN(2) == 0)
		had, tried := all(l), all(l)
		for i := 0; !l.Bad() && i < 60; i++ {
			had = all(l)
			tried = step(r, l)
		}
		safe := l.Safe()
		if !l.Bad() {
			had, tried = all(l), all(l)
		}
		fate := make([]byte, 40)
		for i := range fate {
			fate[i] = byte(r.IntN(256))
		}
		d.Crash(fate)
		j, e := journal.Open(d)
		if e != api.OK {
			t.Fatal(e)
		}
		again, e := seglog.Open(d, j, first)
		if e != api.OK {
			t.Fatal(e)
		}
		got := all(again)
		if !kept(got, had, safe) && !kept(got, tried, safe) {
			t.Fatal("safe", safe, "\n", got, "\n", had, "\n", tried)
		}
		if again.Append(of(again.Next(), two), true) != api.OK && len(chain(j)) < 20 {
			t.Fatal("no more")
		}
		if last, e := seglog.Open(d, j, first); e != api.OK || !slices.EqualFunc(all(last), all(again), batch.Same) || last.Next() != again.Next() {
			t.Fatal(e)
		}
	}
}
