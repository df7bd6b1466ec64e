package world_test

import (
	"math"
	"math/rand/v2"
	"slices"
	"strconv"
	"testing"

	"bilander/api"
	"bilander/audit"
	"bilander/batch"
	"bilander/wire"
	"bilander/world"
)

var free = api.Config{Time: -1, Blocks: 6, Grace: 5, Patience: 9, Size: 1000, Rate: 1000}

func fresh(t *testing.T, zones, blocks int) *world.World {
	t.Helper()
	w, e := world.New(zones, blocks, free)
	if e != api.OK {
		t.Fatal(e)
	}
	return w
}

func asks(q api.Request) world.Step { return world.Step{Kind: world.Asks, Q: q} }

func produce(i int, flush bool) world.Step {
	b := api.Batch{Count: 1, Records: []api.Record{{Keyed: true, Key: strconv.Itoa(i % 3), Value: string(make([]byte, 50))}}}
	return asks(api.Request{Kind: api.Produce, Topic: "t", Flush: flush, Batch: b})
}

func does(t *testing.T, w *world.World, l ...world.Step) {
	t.Helper()
	for _, s := range l {
		if _, e := w.Do(s); e != api.OK {
			t.Fatal(s, e)
		}
	}
}

var create = asks(api.Request{Kind: api.Create, Topic: "t", Parts: 1})

func batches(w *world.World) []api.Batch {
	p, _ := w.Broker().Part(api.Part{Topic: 1})
	return p.Batches()
}

// P26.1
func TestNew(t *testing.T) {
	for i, c := range []struct {
		zones, blocks int
		c             api.Config
		e             api.Errno
	}{{3, 4, api.Config{Size: -1}, api.ErrArg}, {4, 4, api.Config{Size: -1}, api.ErrRange}, {4, 4, free, api.OK}} {
		if w, e := world.New(c.zones, c.blocks, c.c); e != c.e || (w == nil) != (e != api.OK) {
			t.Error(i, e)
		}
	}
	if w := fresh(t, 8, 8); w.Broker() == nil || w.Down() || w.Sound() != api.OK {
		t.Error("new")
	}
}

// P26.2
func TestAsksAndTicks(t *testing.T) {
	w := fresh(t, 16, 16)
	if a, e := w.Do(create); e != api.OK || !wire.SameResponse(a, api.Response{Kind: api.Create, Offset: 1}) {
		t.Error(a, e)
	}
	if a, e := w.Do(create); e != api.ErrThere || !wire.SameResponse(a, api.Response{Kind: api.Create, Err: api.ErrThere}) {
		t.Error(a, e)
	}
	if a, e := w.Do(world.Step{Kind: 6}); e != api.ErrArg || !wire.SameResponse(a, api.Response{}) {
		t.Error(a, e)
	}
	if a, e := w.Do(world.Step{Kind: world.Ticks, N: 7}); e != api.OK || !wire.SameResponse(a, api.Response{}) || w.Broker().Now() != 7 {
		t.Error(a, e)
	}
	if _, e := w.Do(world.Step{Kind: world.Ticks, N: 6}); e != api.ErrRange {
		t.Error(e)
	}
	if _, e := (*world.World)(nil).Do(world.Step{Kind: 9}); e != api.ErrNil {
		t.Error(e)
	}
}

// P26.2
func TestFailsAndCrashes(t *testing.T) {
	w := fresh(t, 16, 16)
	does(t, w, create, produce(0, true), world.Step{Kind: world.Fails, N: 1})
	if _, e := w.Do(produce(1, true)); e != api.ErrDown || !w.Down() {
		t.Error(e)
	}
	if _, e := w.Do(world.Step{Kind: world.Fails, N: -1}); e != api.ErrDown {
		t.Error(e)
	}
	if _, e := w.Do(world.Step{Kind: world.Opens}); e != api.ErrDown || w.Broker() != nil || w.Sound() != api.ErrDown {
		t.Error(e)
	}
	for _, kind := range []uint8{world.Asks, world.Ticks, world.Works} {
		if _, e := w.Do(world.Step{Kind: kind}); e != api.ErrState {
			t.Error(kind, e)
		}
	}
	if n, e := w.Settle(9); n != 0 || e != api.ErrState {
		t.Error(n, e)
	}
	if a, e := w.Do(world.Step{Kind: world.Crashes, Fate: []byte{0, 9}}); e != api.OK || !wire.SameResponse(a, api.Response{}) || w.Down() || len(batches(w)) != 1 {
		t.Error(a, e)
	}
	if _, e := w.Do(world.Step{Kind: world.Fails, N: -1}); e != api.ErrArg {
		t.Error(e)
	}
	does(t, w, produce(1, false), produce(2, false), world.Step{Kind: world.Ticks, N: 5})
	old := w.Broker()
	does(t, w, world.Step{Kind: world.Opens})
	if w.Broker() == old || len(batches(w)) != 3 || w.Broker().Now() != 0 {
		t.Error("opens")
	}
	does(t, w, world.Step{Kind: world.Crashes})
	if len(batches(w)) != 1 {
		t.Error("crashes without a failure")
	}
	does(t, w, world.Step{Kind: world.Fails, N: 0, Done: true})
	w.Do(produce(1, false))
	does(t, w, world.Step{Kind: world.Crashes, Fate: []byte{2}})
	if w.Down() {
		t.Error("down")
	}
}

// many makes a world with much to do: retention and zones that wait.
func many(t *testing.T) *world.World {
	w := fresh(t, 64, 16)
	does(t, w, create)
	for i := range 440 { // 55 segments: 54 go in one step, and their zones one by one
		does(t, w, produce(i, false))
	}
	return w
}

// P26.2, P26.3
func TestWorksAndSettle(t *testing.T) {
	w := many(t)
	for _, c := range []struct{ n, want int }{{-1, 0}, {0, 0}, {3, 3}, {math.MaxInt, 52}, {9, 0}} {
		if a, e := w.Do(world.Step{Kind: world.Works, N: c.n}); e != api.OK || !wire.SameResponse(a, api.Response{Next: c.want}) {
			t.Error(c, a, e)
		}
	}
	w = many(t)
	for _, c := range []struct{ n, want int }{{-1, 0}, {0, 0}, {3, 3}, {math.MaxInt, 52}, {9, 0}} {
		if n, e := w.Settle(c.n); n != c.want || e != api.OK {
			t.Error(c, n, e)
		}
	}
	w = many(t)
	does(t, w, world.Step{Kind: world.Works, N: 4}, world.Step{Kind: world.Fails, N: 5})
	if n, e := w.Settle(99); n != 5 || e != api.ErrDown {
		t.Error(n, e)
	}
	if n, e := w.Settle(99); n != 0 || e != api.ErrState {
		t.Error(n, e)
	}
	if n, e := (*world.World)(nil).Settle(0); n != 0 || e != api.ErrNil {
		t.Error(n, e)
	}
}

// P26.4
func TestLooks(t *testing.T) {
	w := fresh(t, 16, 16)
	does(t, w, create, produce(0, true), produce(1, false))
	r, e := w.Report()
	if e != api.OK || r != (audit.Report{Zones: 16, Said: 2, Owned: 1, Free: 13, Topics: 2, Parts: 2, Batches: 2, Records: 2}) || w.Sound() != api.OK {
		t.Error(r, e)
	}
	f := w.Fork()
	does(t, f, produce(2, true))
	if len(batches(w)) != 2 || len(batches(f)) != 3 || f.Broker() == w.Broker() {
		t.Error("one of its own")
	}
	does(t, w, world.Step{Kind: world.Fails})
	g := w.Fork()
	w.Do(produce(2, true))
	if g.Down() || !w.Down() || w.Fork().Broker() != nil {
		t.Error("its failure")
	}
	var none *world.World
	if _, e := none.Report(); e != api.ErrNil || none.Sound() != api.ErrNil || none.Broker() != nil || none.Down() || none.Fork() != nil {
		t.Error("nil")
	}
}

// P26.5
func TestWhateverAScriptDoes(t *testing.T) {
	r := rand.New(rand.NewPCG(26, 26))
	for range 150 {
		w := fresh(t, 8+r.IntN(10), 4+r.IntN(8))
		does(t, w, create)
		for i := range 60 {
			s := produce(i, r.IntN(2) == 0)
			switch r.IntN(10) {
			case 0:
				s = world.Step{Kind: world.Fails, N: r.IntN(8), Done: r.IntN(2) == 0}
			case 1:
				s = world.Step{Kind: world.Works, N: r.IntN(5)}
			case 2:
				s = world.Step{Kind: world.Opens}
			case 3:
				s = world.Step{Kind: world.Crashes, Fate: []byte{byte(r.IntN(256)), byte(r.IntN(256)), byte(r.IntN(256))}}
			}
			f := w.Fork()
			a, e := w.Do(s)
			if f.Broker() != nil && (s.Kind == world.Crashes || s.Kind == world.Opens) {
				b, g := f.Do(s) // the same upon a fork
				if e != g || !wire.SameResponse(a, b) || !slices.EqualFunc(batches(w), batches(f), batch.Same) {
					t.Fatal(s, e, g)
				}
			}
			if s.Kind == world.Crashes && (e != api.OK || w.Broker() == nil || w.Down() || w.Sound() != api.OK) {
				t.Fatal(e, w.Sound())
			}
			if !w.Down() && w.Sound() != api.OK {
				t.Fatal(w.Sound())
			}
		}
	}
}
