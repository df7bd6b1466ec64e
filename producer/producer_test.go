package producer_test

import (
	"math"
	"math/big"
	"math/rand/v2"
	"testing"

	"bilander/api"
	"bilander/producer"
)

func of(id, epoch, seq, count, base int) api.Batch {
	return api.Batch{Base: base, Count: count, Producer: id, Epoch: epoch, Seq: seq}
}

func seen(base ...int) []producer.Seen {
	var l []producer.Seen
	for _, b := range base {
		l = append(l, producer.Seen{Seq: b, Count: 1, Base: b})
	}
	return l
}

// P13.1
func TestAsk(t *testing.T) {
	table := producer.Table{List: []producer.Entry{
		{ID: 7, Epoch: 2, Last: []producer.Seen{{Seq: 0, Count: 2, Base: 10}, {Seq: 2, Count: 1, Base: 15}}},
		{ID: 8, Epoch: 0},
		{ID: 9, Epoch: 0, Last: []producer.Seen{{Seq: api.MaxSeq, Count: 3, Base: 4}, {Seq: api.MaxSeq, Count: 3, Base: 5}}},
		{ID: 10, Epoch: 0, Last: []producer.Seen{{Seq: -5, Count: 2, Base: 4}}},
		{ID: 7, Epoch: 0, Last: []producer.Seen{{Seq: 50, Count: 1, Base: 4}}},
	}}
	for i, c := range []struct {
		b      api.Batch
		base   int
		double bool
		e      api.Errno
	}{
		{of(0, 9, 9, 9, 9), 0, false, api.OK},
		{of(7, 1, 0, 2, 0), 0, false, api.ErrFenced},
		{of(7, 2, 0, 2, 0), 10, true, api.OK},
		{of(7, 2, 2, 1, 0), 15, true, api.OK},
		{of(7, 2, 3, 1, 0), 0, false, api.OK},
		{of(7, 2, 2, 2, 0), 0, false, api.ErrOrder},
		{of(7, 2, 0, 1, 0), 0, false, api.ErrOrder},
		{of(7, 2, 4, 1, 0), 0, false, api.ErrOrder},
		{of(7, 3, 0, 1, 0), 0, false, api.OK},
		{of(7, 3, 3, 1, 0), 0, false, api.ErrOrder},
		{of(8, 0, 0, 1, 0), 0, false, api.OK},
		{of(8, 0, 1, 1, 0), 0, false, api.ErrOrder},
		{of(11, 0, 0, 1, 0), 0, false, api.OK},
		{of(11, 0, 1, 1, 0), 0, false, api.ErrOrder},
		{of(9, 0, api.MaxSeq, 3, 0), 4, true, api.OK},
		{of(9, 0, 2, 1, 0), 0, false, api.OK},
		{of(9, 0, 3, 1, 0), 0, false, api.ErrOrder},
		{of(10, 0, 1<<31-3, 1, 0), 0, false, api.OK},
		{of(7, 0, 50, 1, 0), 0, false, api.ErrFenced},
	} {
		if base, double, e := producer.Ask(table, c.b); base != c.base || double != c.double || e != c.e {
			t.Error(i, base, double, e)
		}
	}
}

// P13.2
func TestPut(t *testing.T) {
	table := producer.Build([]api.Batch{of(7, 0, 0, 1, 0), of(3, 0, 1, 1, 1), of(0, 0, 0, 1, 2), of(5, 0, 3, 1, 3), of(9, 1, 4, 1, 4)})
	if l := table.List; len(l) != 4 || l[0].ID != 3 || l[1].ID != 5 || l[2].ID != 7 || l[3].ID != 9 || l[3].Epoch != 1 {
		t.Error(l)
	}
	for i := 1; i < 9; i++ {
		before := table
		table = producer.Put(table, of(7, 0, i, 1, i))
		if e, _ := producer.Find(before, 7); len(e.Last) != min(i, 5) || e.Last[len(e.Last)-1].Seq != i-1 {
			t.Error("changed", e)
		}
	}
	want := producer.Table{List: []producer.Entry{{7, 0, seen(4, 5, 6, 7, 8)}}}
	if e, ok := producer.Find(table, 7); !ok || !producer.Same(producer.Table{List: []producer.Entry{e}}, want) {
		t.Error(e)
	}
	for _, epoch := range []int{1, -1} {
		e, _ := producer.Find(producer.Put(table, of(7, epoch, 0, 2, 99)), 7)
		if e.Epoch != epoch || len(e.Last) != 1 || e.Last[0] != (producer.Seen{Seq: 0, Count: 2, Base: 99}) {
			t.Error(e)
		}
	}
	if !producer.Same(producer.Put(table, of(0, 1, 1, 1, 1)), table) {
		t.Error("without a producer")
	}
	odd := producer.Table{List: []producer.Entry{{ID: 9}, {ID: 4}, {ID: 9}}}
	if l := producer.Put(odd, of(9, 0, 0, 1, 0)).List; len(l) != 3 || len(l[0].Last) != 1 || len(l[2].Last) != 0 {
		t.Error(l)
	}
	if l := producer.Put(odd, of(5, 0, 0, 1, 0)).List; len(l) != 4 || l[0].ID != 5 {
		t.Error(l)
	}
}

// P13.3
func TestCut(t *testing.T) {
	table := producer.Table{List: []producer.Entry{{1, 0, seen(1, 8, 3)}, {2, 0, seen(9)}, {3, 0, nil}, {4, 5, seen(2)},
		{5, 0, []producer.Seen{{Count: math.MaxInt, Base: math.MaxInt}, {Count: math.MinInt, Base: math.MinInt}}}}}
	want := producer.Table{List: []producer.Entry{{1, 0, seen(1, 3)}, {4, 5, seen(2)}, {5, 0, []producer.Seen{{Count: math.MinInt, Base: math.MinInt}}}}}
	if got := producer.Cut(table, 4); !producer.Same(got, want) {
		t.Error(got)
	}
	if len(table.List) != 5 || table.List[0].Last[1].Base != 8 {
		t.Error("changed")
	}
	if got := producer.Cut(table, 3); len(got.List) != 3 || len(got.List[0].Last) != 1 {
		t.Error(got)
	}
}

// P13.3: also where no int tells the sum.
func TestCutOfGreatNumbers(t *testing.T) {
	edges := []int{math.MinInt, math.MinInt + 1, -5, -1, 0, 1, 5, math.MaxInt - 1, math.MaxInt}
	for _, base := range edges {
		for _, count := range edges {
			for _, next := range edges {
				sum := new(big.Int).Add(big.NewInt(int64(base)), big.NewInt(int64(count)))
				table := producer.Table{List: []producer.Entry{{ID: 1, Last: []producer.Seen{{Base: base, Count: count}}}}}
				if goes := len(producer.Cut(table, next).List) == 0; goes != (sum.Cmp(big.NewInt(int64(next))) > 0) {
					t.Error(base, count, next)
				}
			}
		}
	}
}

// P13.4
func TestFindAndSame(t *testing.T) {
	table := producer.Table{List: []producer.Entry{{1, 0, seen(1)}, {2, 5, seen(9)}, {2, 6, nil}}}
	e, ok := producer.Find(table, 2)
	if !ok || e.Epoch != 5 {
		t.Error(e)
	}
	e.Last[0].Seq = 77
	if table.List[1].Last[0].Seq != 9 {
		t.Error("shared")
	}
	if e, ok := producer.Find(table, 3); ok || e.ID != 0 || e.Last != nil {
		t.Error(e)
	}
	for _, l := range [][]producer.Entry{{{2, 0, seen(1)}}, {{1, 1, seen(1)}}, {{1, 0, seen(2)}}, {{1, 0, nil}}, nil} {
		if producer.Same(producer.Table{List: l}, producer.Table{List: table.List[:1]}) {
			t.Error(l)
		}
	}
	if !producer.Same(producer.Table{}, producer.Build(nil)) {
		t.Error("empty")
	}
}

// P13.5
func TestDoubles(t *testing.T) {
	r := rand.New(rand.NewPCG(13, 13))
	table := producer.Table{}
	var l []api.Batch
	next, seqs := 0, [4]int{}
	for range 2000 {
		id := 1 + r.IntN(3)
		b := of(id, 0, seqs[id], 1+r.IntN(4), next)
		if base, double, e := producer.Ask(table, b); base != 0 || double || e != api.OK {
			t.Fatal(b, base, double, e)
		}
		table = producer.Put(table, b)
		l = append(l, b)
		next += b.Count
		seqs[id] += b.Count
		put := [4]int{}
		for i := len(l) - 1; i >= max(0, len(l)-40); i-- {
			o := l[i]
			base, double, e := producer.Ask(table, o)
			if put[o.Producer] < 5 && (base != o.Base || !double || e != api.OK) || put[o.Producer] >= 5 && (double || e != api.ErrOrder) {
				t.Fatal(i, o, base, double, e)
			}
			put[o.Producer]++
		}
	}
	if !producer.Same(table, producer.Build(l)) {
		t.Error("build")
	}
}
