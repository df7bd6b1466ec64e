package segment_test

import (
	"math"
	"math/rand/v2"
	"slices"
	"strings"
	"testing"

	"bilander/api"
	"bilander/batch"
	"bilander/frame"
	"bilander/index"
	"bilander/segment"
)

func of(base, count int, times ...int) api.Batch {
	b := api.Batch{Base: base, Count: count}
	for i, time := range times {
		b.Records = append(b.Records, api.Record{Delta: i, Time: time, Value: "v"})
	}
	return b
}

func with(base int, l ...api.Batch) segment.Segment { return segment.Segment{Base: base, List: l} }

// P14.1
func TestCheckAndNext(t *testing.T) {
	for i, c := range []struct {
		s    segment.Segment
		next int
		e    api.Errno
	}{
		{with(0), 0, api.OK},
		{with(api.MaxOffset), api.MaxOffset, api.OK},
		{with(4, of(5, 2, 1), of(9, 1)), 10, api.OK},
		{with(5, of(5, 2), of(7, 1)), 8, api.OK},
		{with(-1, of(-5, 0)), -5, api.ErrRange},
		{with(api.MaxOffset + 1), api.MaxOffset + 1, api.ErrRange},
		{with(6, of(5, 2)), 7, api.ErrOrder},
		{with(5, of(5, 2), of(6, 1)), 7, api.ErrOrder},
		{with(5, of(5, 2), of(0, 0)), 0, api.ErrRange},
		{with(5, of(5, 1, 1, 1)), 6, api.ErrLong},
	} {
		if e := segment.Check(c.s); e != c.e || segment.Next(c.s) != c.next {
			t.Error(i, e, segment.Next(c.s))
		}
	}
}

// P14.2
func TestPut(t *testing.T) {
	s := with(5)
	s.List = make([]api.Batch, 0, 8)
	if x, e := segment.Put(s, of(4, 1)); e != api.ErrOrder || !segment.Same(x, segment.Segment{}) {
		t.Error(e)
	}
	if x, e := segment.Put(s, of(4, 0)); e != api.ErrRange || !segment.Same(x, segment.Segment{}) {
		t.Error(e)
	}
	b := of(5, 2, 7)
	x, e := segment.Put(s, b)
	b.Records[0].Time = 99
	if e != api.OK || !segment.Same(x, with(5, of(5, 2, 7))) || len(s.List) != 0 {
		t.Error(x, e)
	}
	y, _ := segment.Put(x, of(9, 1))
	z, _ := segment.Put(x, of(20, 1))
	if !segment.Same(y, with(5, of(5, 2, 7), of(9, 1))) || !segment.Same(z, with(5, of(5, 2, 7), of(20, 1))) {
		t.Error("shared", y, z)
	}
}

// P14.3
func TestFetch(t *testing.T) {
	s := with(5, of(5, 2, 1, 1), of(9, 1, 1), of(12, 3, 1, 1, 1))
	for _, c := range []struct{ offset, most, first, n, records int }{
		{7, 1, 9, 1, 1}, {0, 9, 5, 3, 6}, {6, 9, 5, 3, 5}, {7, 9, 9, 2, 4}, {13, 9, 12, 1, 2}, {14, 1, 12, 1, 1}, {15, 9, 0, 0, 0}, {0, 0, 0, 0, 0}, {0, -1, 0, 0, 0}, {math.MinInt, math.MaxInt, 5, 3, 6},
	} {
		l := segment.Fetch(s, c.offset, c.most)
		records := 0
		for _, b := range l {
			records += len(b.Records)
		}
		if len(l) != c.n || records != c.records || c.n > 0 && l[0].Base != c.first {
			t.Error(c, l)
		}
	}
	l := segment.Fetch(s, 0, 1)
	l[0].Records[0].Time = 99
	if s.List[0].Records[0].Time != 1 {
		t.Error("shared")
	}
	if l := segment.Fetch(with(0, of(0, 3, 1)), 2, 1); len(l) != 1 || len(l[0].Records) != 0 || l[0].Count != 3 {
		t.Error(l)
	}
}

// P14.4
func TestTimes(t *testing.T) {
	s := with(5, of(5, 2, 4, 9), of(9, 1, 3), of(12, 3, 9, 20, 5))
	for time, want := range map[int]int{math.MinInt: 5, 4: 5, 5: 6, 9: 6, 10: 13, 20: 13, 21: -1} {
		if offset, ok := segment.ByTime(s, time); ok != (want >= 0) || ok && offset != want || !ok && offset != 0 {
			t.Error(time, offset, ok)
		}
	}
	odd := with(0, of(9, 1, 5), of(3, 1, 5), of(-7, 1, -9))
	if offset, ok := segment.ByTime(odd, 1); offset != 3 || !ok {
		t.Error(offset)
	}
	if offset, ok := segment.ByTime(odd, -10); offset != -7 || !ok {
		t.Error(offset)
	}
	if segment.Newest(s) != 20 || segment.Newest(with(3)) != -1 || segment.Newest(with(0, of(0, 1))) != -1 || segment.Newest(with(0, of(0, 1, -9), of(0, 1, -4))) != -4 {
		t.Error("newest")
	}
}

// P14.5
func TestNeedAndKeys(t *testing.T) {
	long := of(0, 1, 1)
	long.Records[0].Value = strings.Repeat("v", 400)
	bytes, _ := batch.Put(long)
	if segment.Need(long) != frame.Need(len(bytes)) || segment.Need(of(0, 1)) != 1 || segment.Need(of(0, 0)) != 0 {
		t.Error("need")
	}
	if n := segment.Blocks(with(0, long, of(1, 1), of(0, 0))); n != segment.Need(long)+1 || segment.Blocks(with(0)) != 0 {
		t.Error(n)
	}
	b := of(0, 3)
	b.Records = []api.Record{{Keyed: true, Key: "b"}, {Key: "z"}, {Keyed: true, Key: ""}, {Keyed: true, Dead: true, Key: "c"}}
	c := of(3, 1)
	c.Records = []api.Record{{Keyed: true, Key: "a"}, {Keyed: true, Key: "b"}}
	if l := segment.Keys(with(0, b, c)); !slices.Equal(l, []string{"", "a", "b", "c"}) || len(segment.Keys(with(0))) != 0 {
		t.Error(l)
	}
}

// P14.6
func TestSparseAndSame(t *testing.T) {
	s := with(5, of(5, 2, 4, 9), of(9, 1, 3), of(12, 3))
	want := index.Index{Every: 2, Count: 3, List: []index.Entry{{Offset: 5, Time: 9, At: 0}, {Offset: 12, Time: 9, At: 2}}}
	if x := segment.Sparse(s, 2); !index.Same(x, want) {
		t.Error(x)
	}
	if segment.Same(s, with(6, s.List...)) || segment.Same(s, with(5, s.List[:2]...)) || segment.Same(s, with(5, of(5, 2, 4, 8), s.List[1], s.List[2])) || !segment.Same(s, s) || !segment.Same(with(1), segment.Segment{Base: 1, List: []api.Batch{}}) {
		t.Error("same")
	}
}

// P14.7
func TestMayBe(t *testing.T) {
	r := rand.New(rand.NewPCG(14, 14))
	for range 200 {
		s := with(r.IntN(5))
		for range r.IntN(10) {
			n, e := segment.Put(s, of(max(segment.Next(s)-1+r.IntN(4), 0), 1+r.IntN(3), 1))
			if e == api.OK {
				s = n
			}
			if segment.Check(s) != api.OK || len(segment.Fetch(s, segment.Next(s), 9)) != 0 {
				t.Fatal(s)
			}
		}
	}
}
