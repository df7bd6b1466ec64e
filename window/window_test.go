package window_test

import (
	"math"
	"math/rand/v2"
	"slices"
	"strings"
	"testing"

	"bilander/api"
	"bilander/window"
)

const (
	small = 1 << 20
	great = 1 << 30
)

func fresh(t *testing.T, size, late int) window.State {
	t.Helper()
	s, e := window.New(size, late)
	if e != api.OK {
		t.Fatal(e)
	}
	return s
}

func feed(t *testing.T, s window.State, key string, time, n int) (window.State, []window.Sum) {
	t.Helper()
	s, l, e := window.Feed(s, key, time, n)
	if e != api.OK {
		t.Fatal(key, time, n, e)
	}
	return s, l
}

func sample() window.State {
	return window.State{Size: 10, Late: 5, Mark: 12, Drops: 2, Open: []window.Sum{{0, "a", 2, 8, 1, 7}, {0, "b", 1, -3, -3, -3}, {10, "a", 1, 5, 5, 5}}}
}

func many(n int) window.State {
	s := window.State{Size: 1, Late: 1000, Mark: -1}
	for i := range n {
		s.Open = append(s.Open, window.Sum{Start: i, Count: 1})
	}
	return s
}

// P35.1
func TestCheckAndNew(t *testing.T) {
	if s := fresh(t, 10, 5); !window.Same(s, window.State{Size: 10, Late: 5, Mark: -1}) {
		t.Error(s)
	}
	for _, c := range [][2]int{{0, 5}, {-1, 5}, {small + 1, 5}, {10, -1}, {10, small + 1}, {math.MinInt, math.MaxInt}} {
		if s, e := window.New(c[0], c[1]); e != api.ErrRange || !window.Same(s, window.State{}) {
			t.Error(c, e)
		}
	}
	for i, s := range []window.State{sample(), many(256), {Size: small, Late: small, Mark: api.MaxTime, Drops: api.MaxTime}, {Size: 1, Open: []window.Sum{{api.MaxTime, strings.Repeat("k", 64), small, small * great, great, great}}}, {Size: 1, Open: []window.Sum{{0, "", small, -small * great, -great, great}}}} {
		if window.Check(s) != api.OK {
			t.Error(i)
		}
	}
	for i, change := range []func(*window.State){
		func(s *window.State) { s.Size = 0 }, func(s *window.State) { s.Size = 4 }, func(s *window.State) { s.Late = -1 }, func(s *window.State) { s.Mark = -2 }, func(s *window.State) { s.Mark = api.MaxTime + 1 }, func(s *window.State) { s.Drops = -1 }, func(s *window.State) { s.Drops = api.MaxTime + 1 },
		func(s *window.State) { *s = many(257) }, func(s *window.State) { s.Open[0].Start = -10 }, func(s *window.State) { s.Open[0].Start = 5 }, func(s *window.State) { s.Open[2].Start = api.MaxTime/10*10 + 10 }, func(s *window.State) { s.Open[2].Key = strings.Repeat("k", 65) },
		func(s *window.State) { s.Open[0].Count = 0 }, func(s *window.State) { s.Open[0].Count = small + 1 }, func(s *window.State) { s.Open[0].Least = -great - 1 }, func(s *window.State) { s.Open[0].Most = great + 1 }, func(s *window.State) { s.Open[0].Least = 8 },
		func(s *window.State) { s.Open[0].Total = 1 }, func(s *window.State) { s.Open[0].Total = 15 }, func(s *window.State) { s.Open[0].Least, s.Open[1].Key = math.MinInt, "a" },
	} {
		s := sample()
		change(&s)
		if e := window.Check(s); e != api.ErrRange {
			t.Error(i, e)
		}
	}
	for i, change := range []func(*window.State){func(s *window.State) { s.Open[1].Key = "a" }, func(s *window.State) { s.Open[1].Key = "" }, func(s *window.State) { s.Open[2].Start = 0 }, func(s *window.State) { s.Open[0].Start = 10 }} {
		s := sample()
		change(&s)
		if e := window.Check(s); e != api.ErrOrder {
			t.Error(i, e)
		}
	}
}

// P35.2
func TestFeed(t *testing.T) {
	s := fresh(t, 10, 5)
	s, l1 := feed(t, s, "a", 3, 7)
	s, l2 := feed(t, s, "a", 9, 1)
	before := s
	s, l3 := feed(t, s, "b", 25, 4)
	if len(l1)+len(l2) != 0 || !slices.Equal(l3, []window.Sum{{0, "a", 2, 8, 1, 7}}) || !window.Same(s, window.State{Size: 10, Late: 5, Mark: 25, Open: []window.Sum{{20, "b", 1, 4, 4, 4}}}) {
		t.Error(l1, l2, l3, s)
	}
	if !window.Same(before, window.State{Size: 10, Late: 5, Mark: 9, Open: []window.Sum{{0, "a", 2, 8, 1, 7}}}) {
		t.Error("changed", before)
	}
	s, l := feed(t, s, "c", 9, 1) // its window is late
	if len(l) != 0 || s.Drops != 1 || s.Mark != 25 || len(s.Open) != 1 {
		t.Error(s, l)
	}
	s, l = feed(t, s, "a", 12, -1) // late at 25: 10 + 10 + 5
	if len(l) != 0 || s.Drops != 2 {
		t.Error(s, l)
	}
	s, l = feed(t, s, "a", 24, -1)
	if len(l) != 0 || !slices.Equal(s.Open, []window.Sum{{20, "a", 1, -1, -1, -1}, {20, "b", 1, 4, 4, 4}}) || s.Mark != 25 {
		t.Error(s, l)
	}
	s, l = feed(t, s, "a", 34, 2)
	if len(l) != 0 || len(s.Open) != 3 || s.Mark != 34 {
		t.Error(s, l)
	}
	if s, l = feed(t, s, "a", 35, 2); !slices.Equal(l, []window.Sum{{20, "a", 1, -1, -1, -1}, {20, "b", 1, 4, 4, 4}}) || !slices.Equal(s.Open, []window.Sum{{30, "a", 2, 4, 2, 2}}) {
		t.Error(s, l)
	}
	roomy := sample()
	roomy.Open = append(make([]window.Sum, 0, 9), roomy.Open...)
	feed(t, roomy, "0", 12, 1)
	feed(t, roomy, "a", 12, 1)
	if !window.Same(roomy, sample()) {
		t.Error("changed", roomy)
	}
	if s, _ := feed(t, sample(), strings.Repeat("k", 64), 12, 1); len(s.Open) != 4 {
		t.Error(s)
	}
	s.Drops = api.MaxTime
	if s, _ = feed(t, s, "a", 0, 1); s.Drops != api.MaxTime {
		t.Error(s.Drops)
	}
	s, l = feed(t, s, "z", api.MaxTime, -great)
	if len(l) != 1 || len(s.Open) != 1 || s.Open[0].Total != -great {
		t.Error(s, l)
	}
	odd := window.State{Size: 10, Mark: 50, Open: []window.Sum{{0, "a", 1, 1, 1, 1}}} // late already
	if s, l := feed(t, odd, "a", 51, 1); len(l) != 1 || len(s.Open) != 1 {
		t.Error(s, l)
	}
	if s, l := feed(t, odd, "a", 5, 1); len(l) != 0 || len(s.Open) != 1 || s.Drops != 1 {
		t.Error(s, l)
	}
}

// P35.2
func TestFeedErrors(t *testing.T) {
	bad := sample()
	bad.Size = 0
	full := sample()
	full.Open[0] = window.Sum{0, "a", small, 0, -1, 1}
	for i, c := range []struct {
		s       window.State
		key     string
		time, n int
		e       api.Errno
	}{
		{bad, strings.Repeat("k", 65), -1, 0, api.ErrRange}, {sample(), strings.Repeat("k", 65), -1, 0, api.ErrLong}, {sample(), "a", -1, 0, api.ErrRange}, {sample(), "a", api.MaxTime + 1, 0, api.ErrRange}, {sample(), "a", 1, great + 1, api.ErrRange}, {sample(), "a", 1, -great - 1, api.ErrRange},
		{many(256), "a", 5, 0, api.ErrFull}, {many(256), "", 256, 0, api.ErrFull}, {many(256), "", 5000, 0, api.ErrFull}, {full, "a", 5, 0, api.ErrFull},
	} {
		if s, l, e := window.Feed(c.s, c.key, c.time, c.n); e != c.e || l != nil || !window.Same(s, window.State{}) {
			t.Error(i, e)
		}
	}
	if s, _ := feed(t, many(256), "", 5, 3); s.Open[5].Count != 2 || s.Open[5].Most != 3 {
		t.Error(s.Open[5])
	}
	if s, l := feed(t, full, "b", 5, 3); len(l) != 0 || s.Open[1].Count != 2 {
		t.Error(s)
	}
}

// P35.3
func TestCloseAndTotal(t *testing.T) {
	s, l := window.Close(sample())
	want := sample()
	want.Open = nil
	if !window.Same(s, want) || !slices.Equal(l, sample().Open) {
		t.Error(s, l)
	}
	bad := sample()
	bad.Open[1].Key = "a"
	if s, l := window.Close(bad); len(l) != 0 || !window.Same(s, bad) {
		t.Error(s, l)
	}
	if n, total := window.Total(l); n != 4 || total != 10 {
		t.Error(n, total)
	}
	if n, total := window.Total(nil); n != 0 || total != 0 {
		t.Error(n, total)
	}
	mine := sample()
	_, l = window.Close(mine)
	l[0].Count = 99
	if !window.Same(mine, sample()) {
		t.Error("shared")
	}
}

// P35.4
func TestPutAndGet(t *testing.T) {
	s := window.State{Size: 10, Late: 5, Mark: -1, Drops: 2, Open: []window.Sum{{20, "ab", 3, -4, -3, 2}}}
	b, e := window.Put(s)
	if string(b) != "\x14\x0a\x01\x04\x02\x04ab\x28\x06\x07\x05\x04" || e != api.OK {
		t.Errorf("%x %v", b, e)
	}
	for i := range b {
		if s, e := window.Get(b[:i]); e != api.ErrForm || !window.Same(s, window.State{}) {
			t.Error(i, e)
		}
	}
	for _, c := range []string{string(b) + "\x00", "\x00\x0a\x01\x04\x00", "\x14\x0a\x01\x04\x01", "\x94\x00\x0a\x01\x04\x00", "\x14\x0a\x01\x04\x82\x04", "\x14\x0a\x01\x04\x02\x04ab\x2a\x06\x07\x05\x04", "\x14\x0a\x01\x04\xfe\xff\xff\xff\xff\xff\xff\xff\xff\x01"} {
		if s, e := window.Get([]byte(c)); e != api.ErrForm || !window.Same(s, window.State{}) {
			t.Errorf("%x %v", c, e)
		}
	}
	bad := sample()
	bad.Open[1].Key = "a"
	if b, e := window.Put(bad); b != nil || e != api.ErrOrder {
		t.Error(e)
	}
	for _, s := range []window.State{sample(), many(256), {Size: 1}} {
		b, _ := window.Put(s)
		if got, e := window.Get(b); e != api.OK || !window.Same(got, s) {
			t.Error(got, e)
		}
	}
	for i, change := range []func(*window.State){func(s *window.State) { s.Size++ }, func(s *window.State) { s.Late++ }, func(s *window.State) { s.Mark++ }, func(s *window.State) { s.Drops++ }, func(s *window.State) { s.Open[0].Total++ }, func(s *window.State) { s.Open = nil }} {
		s := sample()
		change(&s)
		if window.Same(s, sample()) || !window.Same(s, s) {
			t.Error(i)
		}
	}
}

// P35.5
func TestCountedOnce(t *testing.T) {
	r := rand.New(rand.NewPCG(35, 35))
	for range 200 {
		s := fresh(t, 1+r.IntN(10), r.IntN(10))
		fed, total, counted := 0, 0, 0
		var told []window.Sum
		time := 0
		for range 100 {
			time += r.IntN(4)
			n := r.IntN(20) - 10
			drops := s.Drops
			next, l := feed(t, s, string(rune('a'+r.IntN(3))), max(time-r.IntN(25), 0), n)
			fed++
			if next.Drops == drops {
				counted++
				total += n
			}
			for _, x := range l {
				if x.Start+s.Size+s.Late > next.Mark {
					t.Fatal("ahead of its time", x)
				}
			}
			for _, x := range next.Open {
				if x.Start+s.Size+s.Late <= next.Mark {
					t.Fatal("not told", x)
				}
			}
			told = append(told, l...)
			s = next
		}
		s, l := window.Close(s)
		told = append(told, l...)
		if n, sum := window.Total(told); n != counted || sum != total || n+s.Drops != fed {
			t.Fatal(n, sum, counted, total, fed, s.Drops)
		}
		spots := map[window.Sum]int{}
		for _, x := range told {
			if spots[window.Sum{Start: x.Start, Key: x.Key}]++; spots[window.Sum{Start: x.Start, Key: x.Key}] > 1 {
				t.Fatal("told twice", x)
			}
		}
	}
}
