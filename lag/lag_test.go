package lag_test

import (
	"math"
	"slices"
	"testing"

	"bilander/api"
	"bilander/broker"
	"bilander/lag"
	"bilander/zone"
)

// P29.1
func TestOf(t *testing.T) {
	for i, c := range []struct {
		start, next, at int
		has             bool
		want            int
	}{
		{0, 5, 2, true, 3}, {0, 5, 2, false, 5}, {3, 5, 2, true, 2}, {3, 5, 2, false, 2}, {0, 5, 5, true, 0}, {0, 5, 9, true, 0}, {5, 5, 0, false, 0}, {9, 5, 0, true, 0},
		{math.MinInt, math.MaxInt, 0, false, math.MaxInt}, {math.MinInt, 5, math.MinInt, true, math.MaxInt}, {math.MinInt, -1, math.MinInt, true, math.MaxInt}, {0, math.MaxInt, 0, false, math.MaxInt},
	} {
		if n := lag.Of(c.start, c.next, c.at, c.has); n != c.want {
			t.Error(i, n)
		}
	}
}

func fresh(t *testing.T) *broker.Broker {
	t.Helper()
	d, _ := zone.New(16, 8)
	x, e := broker.Format(d, api.Config{Time: -1, Blocks: 8, Patience: 9, Size: 1000, Rate: 1000})
	if e != api.OK {
		t.Fatal(e)
	}
	asks(t, x, api.Request{Kind: api.Create, Topic: "b", Parts: 2}, api.Request{Kind: api.Create, Topic: "a", Parts: 1}, api.Request{Kind: api.Join, Group: "g", Member: "m"})
	return x
}

func asks(t *testing.T, x *broker.Broker, l ...api.Request) {
	t.Helper()
	for _, q := range l {
		if a := x.Ask(q); a.Err != api.OK {
			t.Fatal(q, a)
		}
	}
}

func produce(topic string, index, count int) api.Request {
	return api.Request{Kind: api.Produce, Topic: topic, Index: index, Batch: api.Batch{Count: count}}
}

func commits(topic string, index, offset int) api.Request {
	return api.Request{Kind: api.Commit, Group: "g", Member: "m", Gen: 1, Topic: topic, Index: index, Offset: offset}
}

// P29.2
func TestGroup(t *testing.T) {
	x := fresh(t)
	asks(t, x, produce("b", 1, 5), produce("a", 0, 3), commits("b", 1, 2))
	want := []lag.Lag{{Topic: "b"}, {Topic: "b", Index: 1, At: 2, Next: 5, Left: 3}, {Topic: "a", Next: 3, Left: 3}}
	if l := lag.Group(x, "g"); !slices.Equal(l, want) {
		t.Error(l)
	}
	want[1].At, want[1].Left = 0, 5
	if l := lag.Group(x, "h"); !slices.Equal(l, want) {
		t.Error(l)
	}
	for range 30 {
		asks(t, x, produce("b", 1, 1))
	}
	for did := true; did; {
		did, _ = x.Work()
	}
	p, _ := x.Part(api.Part{Topic: 1, Index: 1})
	if start := p.Start(); start <= 2 || lag.Group(x, "g")[1] != (lag.Lag{Topic: "b", Index: 1, At: start, Next: 35, Left: 35 - start}) || lag.Group(x, "h")[1] != lag.Group(x, "g")[1] {
		t.Error(start, lag.Group(x, "g"))
	}
	if lag.Group(nil, "g") != nil {
		t.Error("nil")
	}
}

// P29.3
func TestTotalAndMost(t *testing.T) {
	l := []lag.Lag{{Left: 3}, {Topic: "a", Left: 7}, {Left: -5}, {Topic: "b", Left: 7}}
	if n := lag.Total(l); n != 17 || lag.Total(nil) != 0 {
		t.Error(n)
	}
	if n := lag.Total([]lag.Lag{{Left: math.MaxInt}, {Left: math.MinInt}, {Left: math.MaxInt}}); n != 2<<40 {
		t.Error(n)
	}
	if m, ok := lag.Most(l); !ok || m.Topic != "a" {
		t.Error(m)
	}
	if m, ok := lag.Most([]lag.Lag{{Left: -5, Index: 1}, {Left: -7}}); !ok || m.Index != 1 {
		t.Error(m)
	}
	if m, ok := lag.Most([]lag.Lag{{Left: 5}}); !ok || m.Left != 5 {
		t.Error(m)
	}
	if m, ok := lag.Most(nil); ok || m != (lag.Lag{}) {
		t.Error(m)
	}
}

// P29.4
func TestNothingIsLeft(t *testing.T) {
	x := fresh(t)
	for i := range 5 {
		asks(t, x, produce("b", 0, 2), produce("a", 0, 1))
		if n := lag.Total(lag.Group(x, "h")); n != 3*i+3 {
			t.Error(i, n)
		}
		asks(t, x, commits("b", 0, 2*i+2))
		if l := lag.Group(x, "g"); l[0].Left != 0 || l[2].Left != i+1 {
			t.Error(i, l)
		}
	}
}
