package index_test

import (
	"math"
	"math/rand/v2"
	"slices"
	"testing"

	"bilander/index"
)

func entries(offsets ...int) []index.Entry {
	var l []index.Entry
	for i, o := range offsets {
		l = append(l, index.Entry{Offset: o, Time: 10 * o, At: i})
	}
	return l
}

// P12.1
func TestAdd(t *testing.T) {
	for every, want := range map[int]int{-5: 1, 0: 1, 1: 1, 7: 7, math.MinInt: 1} {
		if x := index.New(every); !index.Same(x, index.Index{Every: want}) {
			t.Error(every, x)
		}
	}
	x := index.Index{Every: 3, Count: 5, List: make([]index.Entry, 1, 9)}
	x.List[0] = index.Entry{Offset: 4, Time: 8, At: 2}
	y := index.Add(x, index.Entry{Offset: 9, Time: 9, At: 9})
	if y.Count != 6 || len(y.List) != 1 || x.Count != 5 {
		t.Error(y)
	}
	z := index.Add(y, index.Entry{Offset: 9, Time: 3, At: 9})
	if z.Count != 7 || !slices.Equal(z.List, []index.Entry{{4, 8, 2}, {9, 8, 9}}) || len(y.List) != 1 {
		t.Error(z)
	}
	if v := index.Add(y, index.Entry{Offset: 9, Time: 30, At: 9}); v.List[1].Time != 30 || z.List[1].Time != 8 {
		t.Error("shared", v, z)
	}
	for _, every := range []int{0, -3} {
		x := index.Index{Every: every, Count: 1}
		if x = index.Add(x, index.Entry{At: 1}); x.Every != every || x.Count != 2 || len(x.List) != 1 {
			t.Error(every, x)
		}
	}
}

// P12.2
func TestFind(t *testing.T) {
	x := index.Index{Every: 1, List: entries(0, 5, 5, 9)}
	for offset, want := range map[int]int{-1: -1, 0: 0, 4: 0, 5: 2, 8: 2, 9: 3, math.MaxInt: 3, math.MinInt: -1} {
		e, ok := index.Find(x, offset)
		if ok != (want >= 0) || ok && e.At != want || !ok && e != (index.Entry{}) {
			t.Error(offset, e, ok)
		}
	}
	if _, ok := index.Find(index.Index{}, 5); ok {
		t.Error("none")
	}
	if e, ok := index.Find(index.Index{List: entries(9, 0, 5)}, 5); ok && !slices.Contains(entries(9, 0, 5), e) {
		t.Error(e)
	}
}

// P12.3
func TestByTime(t *testing.T) {
	if e, ok := index.ByTime(index.Index{List: []index.Entry{{0, 4, 7}, {1, 9, 1}}}, 5); !ok || e.At != 7 {
		t.Error(e)
	}
	x := index.Index{List: []index.Entry{{0, 4, 0}, {1, 9, 1}, {2, 2, 2}, {3, 9, 3}}}
	for time, want := range map[int]int{2: -1, 3: 2, 4: 2, 9: 2, 10: 3, math.MaxInt: 3, math.MinInt: -1} {
		e, ok := index.ByTime(x, time)
		if ok != (want >= 0) || ok && e.At != want || !ok && e != (index.Entry{}) {
			t.Error(time, e, ok)
		}
	}
}

// P12.4
func TestBuild(t *testing.T) {
	x := index.Build(2, entries(0, 5, 9, 12))
	if x.Every != 2 || x.Count != 4 || len(x.List) != 2 || x.List[0].Offset != 0 || x.List[1].Offset != 9 {
		t.Error(x)
	}
	if !index.Same(index.Build(0, nil), index.New(1)) {
		t.Error("none")
	}
	for _, y := range []index.Index{{Every: 3, Count: 4, List: x.List}, {Every: 2, Count: 5, List: x.List}, {Every: 2, Count: 4, List: x.List[:1]}, {Every: 2, Count: 4, List: entries(0, 9)}} {
		if index.Same(x, y) {
			t.Error(y)
		}
	}
	if !index.Same(index.Index{}, index.Index{List: []index.Entry{}}) || !index.Same(x, x) {
		t.Error("same")
	}
}

// P12.5
func TestLooksAreFew(t *testing.T) {
	r := rand.New(rand.NewPCG(12, 12))
	for range 500 {
		var l []index.Entry
		offset := 0
		for i := range r.IntN(40) {
			offset += 1 + r.IntN(4)
			l = append(l, index.Entry{Offset: offset, Time: r.IntN(60), At: i})
		}
		every := 1 + r.IntN(5)
		x := index.Index{Every: every}
		for _, e := range l {
			x = index.Add(x, e)
		}
		if !index.Same(x, index.Build(every, l)) {
			t.Fatal("build")
		}
		for o := range offset + 2 {
			last := -1 // the last of all that is not above o
			for i, e := range l {
				if e.Offset <= o {
					last = i
				}
			}
			e, ok := index.Find(x, o)
			if ok != (last >= 0) || ok && (e.At > last || last-e.At >= every) {
				t.Fatal(o, last, e)
			}
		}
		for time := range 61 {
			e, ok := index.ByTime(x, time)
			for i := 0; ok && i <= e.At; i += every {
				if l[i].Time >= time {
					t.Fatal(time, i, e)
				}
			}
		}
	}
}
