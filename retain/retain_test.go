package retain_test

import (
	"math"
	"math/rand/v2"
	"testing"

	"bilander/retain"
)

func segs(blocks ...int) []retain.Seg {
	var l []retain.Seg
	for i, b := range blocks {
		l = append(l, retain.Seg{Base: 10 * i, Next: 10*i + 10, Newest: 100 * i, Blocks: b})
	}
	return l
}

// P16.1
func TestOld(t *testing.T) {
	for i, c := range []struct {
		newest, time, now int
		want              bool
	}{
		{10, 5, 15, false}, {10, 5, 16, true}, {10, -1, 1000, false}, {-1, 0, 1000, false}, {0, 0, 1, true}, {0, 0, 0, false},
		{10, math.MaxInt, math.MaxInt, false}, {1, 5, math.MinInt, false}, {math.MaxInt, 5, 1<<40 + 6, true}, {math.MaxInt, 5, 1<<40 + 5, false}, {1 << 40, 0, 1<<40 + 1, true}, {10, 0, -5, false},
	} {
		if retain.Old(retain.Seg{Newest: c.newest}, retain.Rule{Time: c.time, Blocks: 0}, c.now) != c.want {
			t.Error(i)
		}
	}
}

// P16.1
func TestTotal(t *testing.T) {
	if n := retain.Total(segs(3, -7, math.MaxInt, math.MinInt, 4)); n != 7+1<<40 || retain.Total(nil) != 0 {
		t.Error(n)
	}
}

// P16.2
func TestDrop(t *testing.T) {
	for i, c := range []struct {
		l    []retain.Seg
		r    retain.Rule
		now  int
		want int
	}{
		{segs(10, 10, 10), retain.Rule{Time: -1, Blocks: 25}, 0, 1},
		{segs(10, 10, 10), retain.Rule{Time: -1, Blocks: 30}, 0, 0},
		{segs(10, 10, 10), retain.Rule{Time: -1, Blocks: 20}, 0, 1},
		{segs(10, 10, 10), retain.Rule{Time: -1, Blocks: 0}, 0, 2},
		{segs(10, 10, 10), retain.Rule{Time: -1, Blocks: -1}, 1 << 50, 0},
		{segs(10, 10, 10), retain.Rule{Time: 50, Blocks: -1}, 51, 1},
		{segs(10, 10, 10), retain.Rule{Time: 50, Blocks: -1}, 151, 2},
		{segs(10, 10, 10), retain.Rule{Time: 50, Blocks: -1}, 1 << 50, 2},
		{segs(10, 10, 10), retain.Rule{Time: 50, Blocks: 20}, 51, 1},
		{segs(10, 10, 10), retain.Rule{Time: 50, Blocks: 15}, 51, 2},
		{segs(10), retain.Rule{Time: 0, Blocks: 0}, 1 << 50, 0},
		{nil, retain.Rule{}, 9, 0},
		{segs(math.MaxInt, math.MaxInt, 1), retain.Rule{Time: -1, Blocks: 1<<40 + 1}, 0, 1},
		{segs(-5, -5, -5), retain.Rule{Time: -1, Blocks: 0}, 0, 0},
		{[]retain.Seg{{Newest: -1}, {Newest: 0}, {Newest: 0}}, retain.Rule{Time: 1, Blocks: -1}, 100, 0},
	} {
		if n := retain.Drop(c.l, c.r, c.now); n != c.want {
			t.Error(i, n)
		}
	}
}

// P16.3
func TestStart(t *testing.T) {
	for n, want := range map[int]int{-1: -1, 0: 0, 2: 20, 3: -1, math.MaxInt: -1, math.MinInt: -1} {
		if base, ok := retain.Start(segs(1, 1, 1), n); ok != (want >= 0) || ok && base != want || !ok && base != 0 {
			t.Error(n, base, ok)
		}
	}
}

// P16.4
func TestWhatStays(t *testing.T) {
	r := rand.New(rand.NewPCG(16, 16))
	for range 3000 {
		var l []retain.Seg
		for range r.IntN(8) {
			l = append(l, retain.Seg{Newest: r.IntN(50) - 5, Blocks: r.IntN(20)})
		}
		rule, now := retain.Rule{Time: r.IntN(40) - 5, Blocks: r.IntN(60) - 5}, r.IntN(60)
		n := retain.Drop(l, rule, now)
		goes := func(k int) bool {
			return retain.Old(l[k], rule, now) || rule.Blocks >= 0 && retain.Total(l[k:]) > rule.Blocks
		}
		if n < 0 || n > max(len(l)-1, 0) || n < len(l)-1 && goes(n) {
			t.Fatal(l, rule, now, n)
		}
		for k := range n {
			if !goes(k) {
				t.Fatal(l, rule, now, n, k)
			}
		}
	}
}
