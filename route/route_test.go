package route_test

import (
	"math"
	"math/rand/v2"
	"slices"
	"strconv"
	"testing"

	"bilander/api"
	"bilander/broker"
	"bilander/check"
	"bilander/route"
	"bilander/zone"
)

func keyed(key string) api.Record { return api.Record{Delta: 99, Keyed: true, Key: key} }

func plain(value string) api.Record { return api.Record{Delta: -5, Value: value} }

// P37.1
func TestOf(t *testing.T) {
	for _, key := range []string{"", "a", "123456789", "\xff\xff"} {
		for parts := -2; parts < 12; parts++ {
			if got, want := route.Of(key, parts), int(check.Of([]byte(key))%uint64(min(max(parts, 1), 8))); got != want {
				t.Error(key, parts, got)
			}
		}
	}
	if route.Of("123456789", 8) != 0x995dc9bbdf1939fa&7 || route.Of("123456789", math.MaxInt) != 0x995dc9bbdf1939fa&7 || route.Of("a", math.MinInt) != 0 {
		t.Error("of")
	}
}

// P37.2
func TestSplit(t *testing.T) {
	in := []api.Record{plain("0"), plain("1"), plain("2")}
	l, turn := route.Split(in, 2, 1)
	if turn != 0 || !slices.Equal(l[0], []api.Record{{Value: "1"}}) || !slices.Equal(l[1], []api.Record{{Value: "0"}, {Delta: 1, Value: "2"}}) || in[0].Delta != -5 {
		t.Error(l, turn)
	}
	for i, c := range []struct{ parts, turn, lists, want int }{{3, 0, 3, 0}, {3, 5, 3, 2}, {3, -1, 3, 0}, {3, math.MinInt, 3, 0}, {8, math.MaxInt, 8, 2}, {0, 7, 1, 0}, {-1, 7, 1, 0}, {99, 8, 8, 3}} {
		if l, turn := route.Split(in, c.parts, c.turn); len(l) != c.lists || turn != c.want {
			t.Error(i, l, turn)
		}
	}
	mixed := []api.Record{keyed("k"), plain("0"), keyed("k"), plain("1")}
	l, turn = route.Split(mixed, 4, 3)
	at := route.Of("k", 4)
	if turn != 1 || !slices.ContainsFunc(l[at], func(r api.Record) bool { return r.Key == "k" && r.Keyed }) || len(route.Join(l)) != 4 || !slices.ContainsFunc(l[3], func(r api.Record) bool { return r.Value == "0" }) || !slices.ContainsFunc(l[0], func(r api.Record) bool { return r.Value == "1" }) {
		t.Error(l, turn)
	}
	for _, own := range l {
		for i, r := range own {
			if r.Delta != i {
				t.Error(own)
			}
		}
	}
	if l, turn := route.Split(nil, 2, 1); len(l) != 2 || len(l[0])+len(l[1]) != 0 || turn != 1 {
		t.Error(l, turn)
	}
	long, _ := route.Split(make([]api.Record, 100), 1, 0)
	if len(long[0]) != 100 || long[0][99].Delta != 99 {
		t.Error("long")
	}
}

// P37.3
func TestRequests(t *testing.T) {
	l, turn := route.Requests("t", slices.Repeat([]api.Record{plain("v")}, 131), 2, 3)
	if len(l) != 6 || turn != 0 {
		t.Fatal(len(l), turn)
	}
	for i, q := range l { // 65 go to the part 0, 66 to the part 1
		want := []int{32, 32, 1, 32, 32, 2}[i]
		if q.Kind != api.Produce || q.Topic != "t" || q.Index != i/3 || !q.Flush || q.Batch.Count != want || len(q.Batch.Records) != want || q.Batch.Producer != 0 || q.Batch.Base != 0 {
			t.Error(i, q)
		}
		for k, r := range q.Batch.Records {
			if r.Delta != k {
				t.Error(i, r)
			}
		}
	}
	if l, turn := route.Requests("t", nil, 3, 4); len(l) != 0 || turn != 1 {
		t.Error(l, turn)
	}
}

func fresh(t *testing.T, size int) *broker.Broker {
	t.Helper()
	d, _ := zone.New(32, 16)
	x, e := broker.Format(d, api.Config{Time: -1, Blocks: -1, Size: size})
	if e != api.OK {
		t.Fatal(e)
	}
	if a := x.Ask(api.Request{Kind: api.Create, Topic: "t", Parts: 3}); a.Err != api.OK {
		t.Fatal(a)
	}
	return x
}

// P37.4
func TestSend(t *testing.T) {
	x := fresh(t, 1000)
	if n, turn, e := route.Send(nil, "t", nil, 5); n != 0 || turn != 5 || e != api.ErrNil {
		t.Error(n, turn, e)
	}
	if n, turn, e := route.Send(x, "u", nil, -5); n != 0 || turn != -5 || e != api.ErrNone {
		t.Error(n, turn, e)
	}
	if n, turn, e := route.Send(x, "t", nil, 5); n != 0 || turn != 2 || e != api.OK {
		t.Error(n, turn, e)
	}
	if n, turn, e := route.Send(x, "_offsets", []api.Record{plain("v")}, 5); n != 0 || turn != 5 || e != api.ErrName {
		t.Error(n, turn, e)
	}
	l := slices.Repeat([]api.Record{plain("v")}, 100)
	if n, turn, e := route.Send(x, "t", l, 1); n != 100 || turn != 2 || e != api.OK {
		t.Error(n, turn, e)
	}
	for i, want := range []int{33, 34, 33} {
		if p, _ := x.Part(api.Part{Topic: 1, Index: i}); p.Next() != want || p.Safe() != want {
			t.Error(i, p.Next())
		}
	}
	x = fresh(t, 50)
	if n, turn, e := route.Send(x, "t", l, 7); n != 33 || turn != 7 || e != api.ErrQuota { // 32 and 1 or 2 go, then 32 more would be too many
		t.Error(n, turn, e)
	}
	x = fresh(t, 1000)
	if n, turn, e := route.Send(x, "t", []api.Record{plain("a"), plain("b"), {Time: -1}}, 0); n != 2 || turn != 0 || e != api.ErrRange {
		t.Error(n, turn, e)
	}
}

// P37.5
func TestJoin(t *testing.T) {
	a, b := []api.Record{plain("a"), keyed("b")}, []api.Record{keyed("c")}
	if l := route.Join([][]api.Record{a, nil, b}); !slices.Equal(l, []api.Record{a[0], a[1], b[0]}) || len(route.Join(nil)) != 0 {
		t.Error(l)
	}
}

// P37.6
func TestEachToOnePart(t *testing.T) {
	r := rand.New(rand.NewPCG(37, 37))
	for range 300 {
		var l []api.Record
		for i := range r.IntN(80) {
			x := plain(strconv.Itoa(i))
			if r.IntN(2) == 0 {
				x.Keyed, x.Key = true, string(rune('a'+r.IntN(6)))
			}
			l = append(l, x)
		}
		parts := 1 + r.IntN(8)
		lists, _ := route.Split(l, parts, r.IntN(20))
		values, keys := map[string]int{}, map[string]int{}
		least, most := 1000, 0
		for p, own := range lists {
			keyless, last := 0, -1
			for _, x := range own {
				values[x.Value]++
				n, _ := strconv.Atoi(x.Value)
				if n <= last {
					t.Fatal("order", own)
				}
				last = n
				if !x.Keyed {
					keyless++
					continue
				}
				if at, there := keys[x.Key]; there && at != p {
					t.Fatal(x.Key, at, p)
				}
				keys[x.Key] = p
			}
			least, most = min(least, keyless), max(most, keyless)
		}
		if len(values) != len(l) || len(route.Join(lists)) != len(l) || most > least+1 {
			t.Fatal(len(values), len(l), least, most)
		}
	}
}
