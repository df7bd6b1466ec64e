package merge_test

import (
	"math"
	"math/rand/v2"
	"slices"
	"testing"

	"bilander/api"
	"bilander/merge"
)

func of(base int, times ...int) api.Batch {
	b := api.Batch{Base: base, Count: 32}
	for i, time := range times {
		b.Records = append(b.Records, api.Record{Delta: 2 * i, Time: time, Value: "v"})
	}
	return b
}

func times(l []merge.Item) []int {
	var out []int
	for _, x := range l {
		out = append(out, x.Time)
	}
	return out
}

// P34.1
func TestItemsAndLess(t *testing.T) {
	want := []merge.Item{{3, 10, 5, api.Record{Time: 5, Value: "v"}}, {3, 12, 1, api.Record{Delta: 2, Time: 1, Value: "v"}}, {3, 4, 9, api.Record{Time: 9, Value: "v"}}}
	if l := merge.Items(3, []api.Batch{of(10, 5, 1), of(0), of(4, 9)}); !slices.Equal(l, want) || len(merge.Items(3, nil)) != 0 {
		t.Error(l)
	}
	order := []merge.Item{{Time: -1, List: 9, Offset: 9}, {Time: 1, List: -2, Offset: 9}, {Time: 1, List: 0, Offset: 3}, {Time: 1, List: 0, Offset: 4}, {Time: 2}}
	for i, a := range order {
		for j, b := range order {
			if merge.Less(a, b) != (i < j) {
				t.Error(i, j)
			}
		}
	}
}

// P34.2
func TestNext(t *testing.T) {
	m := merge.New([][]api.Batch{{of(0, 1, 5)}, nil, {of(0), of(7, 2)}, {of(0, 5, 3)}})
	for i, want := range []merge.Item{{0, 0, 1, api.Record{}}, {2, 7, 2, api.Record{}}, {0, 2, 5, api.Record{}}, {3, 0, 5, api.Record{}}, {3, 2, 3, api.Record{}}} {
		x, ok := m.Next()
		if !ok || x.List != want.List || x.Offset != want.Offset || x.Time != want.Time || x.Record.Value != "v" {
			t.Error(i, x)
		}
	}
	for range 3 {
		if x, ok := m.Next(); ok || x != (merge.Item{}) {
			t.Error(x)
		}
	}
	if x, ok := (*merge.Merger)(nil).Next(); ok || x != (merge.Item{}) {
		t.Error(x)
	}
	if x, ok := merge.New(nil).Next(); ok || x != (merge.Item{}) {
		t.Error(x)
	}
}

// P34.3
func TestLooks(t *testing.T) {
	list := []api.Batch{of(0, -9, 4, 2)}
	m := merge.New([][]api.Batch{list})
	list[0].Records[1].Time = 99
	for i, newest := range []int{-1, -1, 4, 4} {
		if m.Left() != 3-i || m.Newest() != newest {
			t.Error(i, m.Left(), m.Newest())
		}
		if f := m.Fork(); i == 1 {
			f.Next()
			f.Next()
			if f.Left() != 0 || f.Newest() != 4 || m.Left() != 2 || m.Newest() != -1 {
				t.Error("one of its own")
			}
		}
		m.Next()
	}
	var none *merge.Merger
	if none.Left() != 0 || none.Newest() != -1 || none.Fork() != nil {
		t.Error("nil")
	}
}

// P34.4
func TestAll(t *testing.T) {
	if l := merge.All([][]api.Batch{{of(0, 1, 5)}, {of(0, 2, 3)}}); !slices.Equal(times(l), []int{1, 2, 3, 5}) {
		t.Error(l)
	}
	if l := merge.All([][]api.Batch{{of(0, 5, 1)}, {of(0, 4, 2)}}); !slices.Equal(times(l), []int{4, 2, 5, 1}) {
		t.Error(l)
	}
	if len(merge.All(nil)) != 0 {
		t.Error("none")
	}
}

// P34.5
func TestEachOnce(t *testing.T) {
	r := rand.New(rand.NewPCG(34, 34))
	for range 500 {
		rising := r.IntN(2) == 0
		lists := make([][]api.Batch, r.IntN(9))
		var own [][]merge.Item
		for i := range lists {
			time := 0
			for base := range r.IntN(5) {
				var l []int
				for range r.IntN(5) {
					time += r.IntN(4)
					if !rising {
						time = r.IntN(20)
					}
					l = append(l, time)
				}
				lists[i] = append(lists[i], of(32*base, l...))
			}
			own = append(own, merge.Items(i, lists[i]))
		}
		all := merge.All(lists)
		last := math.MinInt
		for _, x := range all {
			if own[x.List][0] != x || rising && x.Time < last {
				t.Fatal(x, last)
			}
			for i, l := range own { // none of the others' first ones comes ahead
				if i != x.List && len(l) > 0 && merge.Less(l[0], x) {
					t.Fatal(x, l[0])
				}
			}
			own[x.List] = own[x.List][1:]
			last = x.Time
		}
		for _, l := range own {
			if len(l) > 0 {
				t.Fatal(l)
			}
		}
	}
}
