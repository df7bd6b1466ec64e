package compact_test

import (
	"maps"
	"math"
	"math/rand/v2"
	"slices"
	"testing"

	"bilander/api"
	"bilander/batch"
	"bilander/compact"
)

func keyed(delta int, key, value string) api.Record {
	return api.Record{Delta: delta, Keyed: true, Key: key, Value: value}
}

func dead(delta, time int, key string) api.Record {
	return api.Record{Delta: delta, Time: time, Keyed: true, Key: key, Dead: true}
}

func of(base int, l ...api.Record) api.Batch { return api.Batch{Base: base, Count: 4, Records: l} }

// sample has a at 0, 2 and 9, b at 1, no key at 4, a dead c at 8 of the time 50.
func sample() []api.Batch {
	return []api.Batch{
		of(0, keyed(0, "a", "1"), keyed(1, "b", "2"), keyed(2, "a", "3")),
		of(4, api.Record{Delta: 0, Value: "x"}),
		of(8, dead(0, 50, "c"), keyed(1, "a", "4")),
	}
}

// P17.1
func TestLast(t *testing.T) {
	if m := compact.Last(sample()); !maps.Equal(m, map[string]int{"a": 9, "b": 1, "c": 8}) {
		t.Error(m)
	}
	odd := []api.Batch{of(-9, keyed(0, "a", "")), of(-20, keyed(0, "a", ""))}
	if m := compact.Last(odd); !maps.Equal(m, map[string]int{"a": -9}) || len(compact.Last(nil)) != 0 {
		t.Error(m)
	}
}

// P17.2
func TestKeeps(t *testing.T) {
	for _, c := range []struct {
		i, k, now, grace int
		want             bool
	}{
		{0, 0, 0, 0, false}, {0, 1, 0, 0, true}, {0, 2, 0, 0, false}, {1, 0, 0, 0, true}, {2, 1, 0, 0, true},
		{2, 0, 50, 0, true}, {2, 0, 51, 0, false}, {2, 0, 60, 10, true}, {2, 0, 61, 10, false}, {2, 0, 51, -9, false}, {2, 0, -1, 0, true}, {2, 0, math.MinInt, 0, true}, {2, 0, math.MaxInt, math.MaxInt, true},
		{-1, 0, 0, 0, false}, {3, 0, 0, 0, false}, {0, -1, 0, 0, false}, {0, 3, 0, 0, false}, {math.MaxInt, math.MinInt, 0, 0, false},
	} {
		if compact.Keeps(sample(), c.i, c.k, c.now, c.grace) != c.want {
			t.Error(c)
		}
	}
	old := []api.Batch{of(0, dead(0, -1, "a"), api.Record{Delta: 1, Dead: true})}
	if !compact.Keeps(old, 0, 0, math.MaxInt, 0) || !compact.Keeps(old, 0, 1, math.MaxInt, 0) {
		t.Error("a time below 0, a dead one without a key")
	}
}

// P17.3
func TestClean(t *testing.T) {
	l := sample()
	want := []api.Batch{of(0, keyed(1, "b", "2")), of(4, api.Record{Value: "x"}), of(8, dead(0, 50, "c"), keyed(1, "a", "4"))}
	got := compact.Clean(l, 0, 0)
	if !slices.EqualFunc(got, want, batch.Same) || !slices.EqualFunc(l, sample(), batch.Same) {
		t.Error(got)
	}
	got[0].Records[0].Value = "changed"
	if !slices.EqualFunc(l, sample(), batch.Same) {
		t.Error("shared")
	}
	want[2].Records = want[2].Records[1:]
	if got := compact.Clean(l, 51, 0); !slices.EqualFunc(got, want, batch.Same) {
		t.Error(got)
	}
	l = []api.Batch{of(0, keyed(0, "a", "1")), {Base: 4, Count: 1, Producer: 7, Seq: 3, Records: []api.Record{keyed(0, "a", "2")}}, {Base: 5, Count: 9}, {Base: 20, Count: 1, Producer: 7}, of(30, keyed(0, "a", "3"))}
	want = []api.Batch{{Base: 4, Count: 1, Producer: 7, Seq: 3}, {Base: 20, Count: 1, Producer: 7}, of(30, keyed(0, "a", "3"))}
	if got := compact.Clean(l, 0, 0); !slices.EqualFunc(got, want, batch.Same) {
		t.Error(got)
	}
}

// P17.4
func TestCountAndDirty(t *testing.T) {
	if compact.Count(sample()) != 6 || compact.Count(nil) != 0 {
		t.Error("count")
	}
	for i, c := range []struct {
		l    []api.Batch
		now  int
		want bool
	}{
		{sample(), 0, true}, {nil, 0, false}, {[]api.Batch{{Count: 1}}, 0, true}, {[]api.Batch{{Count: 1, Producer: 1}}, 0, false},
		{sample()[1:], 50, false}, {sample()[1:], 51, true}, {sample()[1:2], 99, false},
	} {
		if compact.Dirty(c.l, c.now, 0) != c.want {
			t.Error(i)
		}
	}
}

// P17.5
func TestWhatStays(t *testing.T) {
	r := rand.New(rand.NewPCG(17, 17))
	for range 1000 {
		var l []api.Batch
		base := 0
		for range r.IntN(12) {
			b := api.Batch{Base: base, Count: 1 + r.IntN(4), Producer: r.IntN(2)}
			for d := range b.Count {
				key := string(rune('a' + r.IntN(4)))
				switch r.IntN(5) {
				case 0:
					b.Records = append(b.Records, api.Record{Delta: d, Value: key})
				case 1:
					b.Records = append(b.Records, dead(d, r.IntN(50), key))
				case 2, 3:
					b.Records = append(b.Records, keyed(d, key, "v"))
				}
			}
			l = append(l, b)
			base += b.Count + r.IntN(2)
		}
		now, grace := r.IntN(60), r.IntN(20)
		clean := compact.Clean(l, now, grace)
		stays := map[int]api.Record{}
		for _, b := range clean {
			for _, x := range b.Records {
				stays[b.Base+x.Delta] = x
			}
		}
		keys := map[string]int{}
		for i, b := range l {
			for k, x := range b.Records {
				got, there := stays[b.Base+x.Delta]
				if there != compact.Keeps(l, i, k, now, grace) || there && got != x || !there && !x.Keyed {
					t.Fatal(b, x)
				}
				if there && x.Keyed {
					keys[x.Key]++
				}
				if !there && compact.Last(l)[x.Key] == b.Base+x.Delta && !(x.Dead && now > x.Time+grace) {
					t.Fatal("a last one went", x)
				}
			}
		}
		for k, n := range keys {
			if n != 1 {
				t.Fatal(k, n)
			}
		}
		if len(stays) != compact.Count(clean) || !slices.EqualFunc(compact.Clean(clean, now, grace), clean, batch.Same) || compact.Dirty(clean, now, grace) {
			t.Fatal("again")
		}
	}
}
