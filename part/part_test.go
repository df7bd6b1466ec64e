package part_test

import (
	"math"
	"math/rand/v2"
	"slices"
	"strings"
	"testing"

	"bilander/api"
	"bilander/batch"
	"bilander/compact"
	"bilander/journal"
	"bilander/part"
	"bilander/producer"
	"bilander/retain"
	"bilander/seglog"
	"bilander/segment"
	"bilander/zone"
)

func fresh(t *testing.T, zones, blocks int) (*zone.Dev, *journal.Journal, *part.Part) {
	t.Helper()
	d, _ := zone.New(zones, blocks)
	j, _ := journal.Format(d)
	j.Add(api.Meta{Kind: api.Makes, Name: "a", Parts: 1})
	x, e := part.Open(d, j, api.Part{})
	if e != api.OK {
		t.Fatal(e)
	}
	return d, j, x
}

// keyed tells a batch of one keyed record, that needs 2 blocks.
func keyed(key string, time int) api.Batch {
	return api.Batch{Count: 1, Records: []api.Record{{Time: time, Keyed: true, Key: key, Value: strings.Repeat("v", 50)}}}
}

func of(id, epoch, seq, count int) api.Batch {
	return api.Batch{Count: count, Producer: id, Epoch: epoch, Seq: seq}
}

func produce(t *testing.T, x *part.Part, l ...api.Batch) {
	t.Helper()
	for _, b := range l {
		if _, double, e := x.Produce(b, true); double || e != api.OK {
			t.Fatal(b, double, e)
		}
	}
}

func at(l []api.Batch) []int {
	var out []int
	for _, b := range l {
		for _, r := range b.Records {
			out = append(out, b.Base+r.Delta)
		}
	}
	return out
}

// P18.1
func TestOpen(t *testing.T) {
	d, j, x := fresh(t, 8, 4)
	for i, c := range []struct {
		d *zone.Dev
		j *journal.Journal
		p api.Part
		e api.Errno
	}{{nil, j, api.Part{}, api.ErrNil}, {d, nil, api.Part{}, api.ErrNil}, {d, j, api.Part{Index: 1}, api.ErrNone}} {
		if x, e := part.Open(c.d, c.j, c.p); x != nil || e != c.e {
			t.Error(i, e)
		}
	}
	produce(t, x, of(7, 0, 0, 2), of(9, 1, 0, 1), of(7, 0, 2, 1))
	again, e := part.Open(d, j, api.Part{})
	want := producer.Build(x.Batches())
	if e != api.OK || !producer.Same(again.Table(), want) || !producer.Same(x.Table(), want) || len(want.List) != 2 {
		t.Error(again.Table())
	}
	var none *part.Part
	n1, _, e1 := none.Produce(of(0, 0, 0, 1), true)
	_, e2 := none.Fetch(0, 1)
	n3, _, e3 := none.ByTime(0)
	n4, e4 := none.Retain(retain.Rule{}, 0)
	_, e5 := none.Clean(0, 0)
	if n1 != 0 || n3 != 0 || n4 != 0 {
		t.Error(n1, n3, n4)
	}
	for i, e := range []api.Errno{e1, e2, e3, e4, e5, none.Flush()} {
		if e != api.ErrNil {
			t.Error(i, e)
		}
	}
}

// P18.2
func TestProduce(t *testing.T) {
	_, _, x := fresh(t, 8, 4)
	b := of(7, 0, 0, 2)
	b.Base = -99
	if base, double, e := x.Produce(b, false); base != 0 || double || e != api.OK || x.Next() != 2 || x.Safe() != 0 {
		t.Error(base, double, e)
	}
	produce(t, x, of(0, 0, 0, 3))
	if base, double, e := x.Produce(of(7, 0, 0, 2), true); base != 0 || !double || e != api.OK || x.Next() != 5 {
		t.Error(base, double, e)
	}
	for i, c := range []struct {
		b api.Batch
		e api.Errno
	}{{of(7, 0, 3, 1), api.ErrOrder}, {of(7, 0, 0, 0), api.ErrRange}, {of(8, 0, 1, 1), api.ErrOrder}, {of(0, 0, 1, 1), api.ErrForm}, {keyed(strings.Repeat("k", 65), 0), api.ErrLong}} {
		if base, double, e := x.Produce(c.b, true); base != 0 || double || e != c.e || x.Next() != 5 {
			t.Error(i, base, double, e)
		}
	}
	produce(t, x, of(7, 1, 0, 1))
	if _, _, e := x.Produce(of(7, 0, 2, 1), true); e != api.ErrFenced {
		t.Error(e)
	}
	if base, double, e := x.Produce(of(7, 1, 1, 1), true); base != 6 || double || e != api.OK || x.Safe() != 7 {
		t.Error(base, double, e)
	}
}

// P18.2
func TestProduceEdges(t *testing.T) {
	d, j, x := fresh(t, 8, 4)
	j.Add(api.Meta{Kind: api.Begins, Base: api.MaxOffset - 2})
	if base, _, e := x.Produce(of(0, 0, 0, 3), true); base != 0 || e != api.ErrOverflow {
		t.Error(base, e)
	}
	if base, _, e := x.Produce(of(0, 0, 0, 2), true); base != api.MaxOffset-2 || e != api.OK {
		t.Error(base, e)
	}
	d.Fail(0, true)
	if _, _, e := x.Produce(of(0, 0, 0, 1), true); e != api.ErrOverflow || x.Bad() {
		t.Error(e)
	}
	if x.Flush() != api.ErrDown || !x.Bad() {
		t.Error("flush")
	}
	d.Crash(nil)
	_, _, e1 := x.Produce(of(0, 0, 0, 0), true)
	_, e2 := x.Fetch(0, 1)
	_, _, e3 := x.ByTime(0)
	_, e4 := x.Retain(retain.Rule{}, 0)
	_, e5 := x.Clean(0, 0)
	for i, e := range []api.Errno{e1, e2, e3, e4, e5, x.Flush()} {
		if e != api.ErrState {
			t.Error(i, e)
		}
	}
}

// P18.3
func TestFetchAndByTime(t *testing.T) {
	_, j, x := fresh(t, 12, 4)
	for _, time := range []int{5, 9, 3, 20, 8} {
		produce(t, x, keyed("k", time))
	}
	if l, e := x.Fetch(1, 2); e != api.OK || !slices.Equal(at(l), []int{1, 2}) {
		t.Error(l, e)
	}
	if _, e := x.Fetch(6, 2); e != api.ErrOffset {
		t.Error(e)
	}
	for time, want := range map[int]int{math.MinInt: 0, 5: 0, 6: 1, 9: 1, 10: 3, 20: 3, 21: -1} {
		offset, ok, e := x.ByTime(time)
		if e != api.OK || ok != (want >= 0) || ok && offset != want || !ok && offset != 5 {
			t.Error(time, offset, ok, e)
		}
	}
	j.Add(api.Meta{Kind: api.Begins, Base: 2})
	if offset, ok, _ := x.ByTime(0); offset != 2 || !ok {
		t.Error(offset)
	}
	if offset, ok, _ := x.ByTime(4); offset != 3 || !ok {
		t.Error(offset)
	}
}

// P18.4
func TestRetain(t *testing.T) {
	_, _, x := fresh(t, 12, 4)
	if n, e := x.Retain(retain.Rule{}, 99); n != 0 || e != api.OK {
		t.Error(n, e)
	}
	for time := range 7 {
		produce(t, x, keyed("k", time))
	}
	if n, e := x.Retain(retain.Rule{Time: -1, Blocks: 10}, 99); n != 1 || e != api.OK || x.Start() != 2 || x.Closed() != 2 { // 14 blocks were there
		t.Error(n, e, x.Start())
	}
	if n, e := x.Retain(retain.Rule{Time: 10, Blocks: -1}, 13); n != 0 || e != api.OK {
		t.Error(n, e)
	}
	if n, e := x.Retain(retain.Rule{Time: 10, Blocks: -1}, 14); n != 1 || e != api.OK || x.Start() != 4 {
		t.Error(n, e)
	}
	if n, e := x.Retain(retain.Rule{Time: 0, Blocks: 0}, 99); n != 1 || e != api.OK || x.Closed() != 0 || !slices.Equal(at(x.Batches()), []int{6}) {
		t.Error(n, e)
	}
}

// P18.5
func TestClean(t *testing.T) {
	d, j, x := fresh(t, 16, 4)
	if did, e := x.Clean(0, 0); did || e != api.OK {
		t.Error(did, e)
	}
	produce(t, x, keyed("a", 0), keyed("b", 1))
	if did, e := x.Clean(0, 0); did || e != api.OK || x.Closed() != 0 {
		t.Error(did, e)
	}
	produce(t, x, keyed("a", 2), keyed("c", 3), keyed("b", 4), keyed("d", 5), keyed("a", 6))
	// closed: a b | a c | b d; of these a at 2, c, b and d stay: the first two segments have room in one zone, not all three
	if did, e := x.Clean(0, 0); !did || e != api.OK || !slices.Equal(at(x.Batches()), []int{2, 3, 4, 5, 6}) || x.Closed() != 2 || x.Start() != 0 || x.Next() != 7 {
		t.Error(did, e, at(x.Batches()), x.Closed())
	}
	if did, e := x.Clean(0, 0); did || e != api.OK {
		t.Error(did, e)
	}
	produce(t, x, keyed("b", 7), keyed("c", 8)) // closes 6 and 7
	if did, e := x.Clean(0, 0); !did || e != api.OK || !slices.Equal(at(x.Batches()), []int{3, 5, 6, 7, 8}) {
		t.Error(did, e, at(x.Batches()))
	}
	again, e := part.Open(d, j, api.Part{})
	if e != api.OK || !slices.EqualFunc(again.Batches(), x.Batches(), batch.Same) {
		t.Error(e)
	}
}

// P18.5
func TestCleanOfDeadAndFull(t *testing.T) {
	_, _, x := fresh(t, 5, 4)
	dead := api.Batch{Count: 1, Records: []api.Record{{Time: 10, Keyed: true, Key: "a", Dead: true}}}
	produce(t, x, keyed("a", 0), dead, keyed("b", 1))
	if did, e := x.Clean(20, 10); !did || e != api.OK || !slices.Equal(at(x.Batches()), []int{1, 2}) {
		t.Error(did, e, at(x.Batches()))
	}
	_, _, x = fresh(t, 5, 4)
	produce(t, x, keyed("a", 0), dead, keyed("b", 1))
	if did, e := x.Clean(21, 10); !did || e != api.OK || !slices.Equal(at(x.Batches()), []int{2}) || x.Closed() != 0 {
		t.Error(did, e, at(x.Batches()))
	}
	_, _, x = fresh(t, 5, 4)
	produce(t, x, keyed("a", 0), keyed("b", 0), keyed("a", 1), keyed("c", 0), keyed("d", 2))
	if did, e := x.Clean(0, 0); did || e != api.ErrFull || len(x.Batches()) != 5 || x.Bad() {
		t.Error(did, e)
	}
}

// P18.5: keys that stand at several places of one batch.
func TestCleanWithin(t *testing.T) {
	_, _, x := fresh(t, 8, 4)
	record := func(delta int, key string) api.Record {
		return api.Record{Delta: delta, Keyed: true, Key: key, Value: strings.Repeat("v", 30)}
	}
	produce(t, x, api.Batch{Count: 3, Records: []api.Record{record(0, "a"), record(1, "b"), record(2, "a")}}, api.Batch{Count: 2, Records: []api.Record{record(1, "b")}}, keyed("c", 0), keyed("d", 0))
	if did, e := x.Clean(0, 0); !did || e != api.OK || !slices.Equal(at(x.Batches()), []int{2, 4, 5, 6}) {
		t.Error(did, e, at(x.Batches()))
	}
}

// P18.4, P18.5: with an error nothing is told.
func TestRetainFails(t *testing.T) {
	d, _, x := fresh(t, 12, 4)
	produce(t, x, keyed("a", 0), keyed("b", 0), keyed("c", 0))
	d.Fail(0, false)
	if n, e := x.Retain(retain.Rule{Time: -1, Blocks: 0}, 0); n != 0 || e != api.ErrDown {
		t.Error(n, e)
	}
	if base, double, e := x.Produce(keyed("a", 0), true); base != 0 || double || e != api.ErrState {
		t.Error(base, double, e)
	}
}

// P18.6
func TestLooks(t *testing.T) {
	_, _, x := fresh(t, 8, 4)
	if x.Closed() != 0 || x.Start() != 0 || x.Next() != 0 || x.Safe() != 0 || x.Bad() || len(x.Batches()) != 0 {
		t.Error("empty")
	}
	x.Produce(of(7, 0, 0, 1), false)
	x.Produce(keyed("a", 0), false)
	if x.Safe() != 0 || x.Flush() != api.OK || x.Safe() != 2 || x.Closed() != 0 {
		t.Error("flush")
	}
	table := x.Table()
	table.List[0].Last[0].Seq = 99
	if _, double, _ := x.Produce(of(7, 0, 0, 1), false); !double {
		t.Error("shared")
	}
	var none *part.Part
	if len(none.Table().List) != 0 || none.Batches() != nil || none.Closed() != 0 || none.Start() != 0 || none.Next() != 0 || none.Safe() != 0 || none.Bad() {
		t.Error("nil")
	}
}

// P18.7
func TestOnceAndClean(t *testing.T) {
	r := rand.New(rand.NewPCG(18, 18))
	for range 60 {
		d, j, x := fresh(t, 40, 6)
		seq, next, now := 0, 0, 0
		for range 60 {
			now++
			switch r.IntN(6) {
			case 0:
				before := x.Batches()
				closed := 0
				if l, e := seglog.Open(d, j, api.Part{}); e == api.OK {
					for _, s := range l.Segments()[:max(len(l.Segments())-1, 0)] {
						closed += len(s.List)
					}
				}
				clean := compact.Clean(before[:closed], now, 5)
				n := x.Closed()
				did, e := x.Clean(now, 5)
				if e != api.OK {
					t.Fatal(e)
				}
				after := x.Batches()
				if did && x.Closed() == 0 && !slices.EqualFunc(after[:len(clean)], clean, batch.Same) {
					t.Fatal("all closed ones are clean")
				}
				if !slices.EqualFunc(after[len(after)-len(before)+closed:], before[closed:], batch.Same) || x.Closed() > n {
					t.Fatal("the last segment")
				}
				if s := (segment.Segment{List: after}); segment.Check(s) != api.OK {
					t.Fatal("order")
				}
			case 1:
				if base, double, e := x.Produce(of(7, 0, max(seq-1, 0), 1), true); seq > 0 && (!double || e != api.OK || base >= next) {
					t.Fatal(base, double, e)
				} else if seq == 0 && e == api.OK {
					seq, next = 1, next+1
				}
			case 2:
				if base, double, e := x.Produce(of(7, 0, seq, 1), true); base != next || double || e != api.OK {
					t.Fatal(base, double, e)
				}
				seq, next = seq+1, next+1
			default:
				b := keyed(string(rune('a'+r.IntN(4))), now)
				if base, _, e := x.Produce(b, r.IntN(2) == 0); base != next || e != api.OK {
					t.Fatal(base, e)
				}
				next++
			}
			if x.Next() != next {
				t.Fatal(x.Next(), next)
			}
		}
		x.Flush()
		d.Crash(nil)
		again, e := part.Open(d, j, api.Part{})
		if e != api.OK || !slices.EqualFunc(again.Batches(), x.Batches(), batch.Same) || !producer.Same(again.Table(), x.Table()) {
			t.Fatal(e)
		}
	}
}
