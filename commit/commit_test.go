package commit_test

import (
	"math"
	"math/rand/v2"
	"strings"
	"testing"

	"bilander/api"
	"bilander/commit"
	"bilander/compact"
)

func long(n int) string { return strings.Repeat("x", n) }

func put(t *testing.T, c commit.Commit, time int) api.Record {
	t.Helper()
	r, e := commit.Put(c, time)
	if e != api.OK {
		t.Fatal(c, e)
	}
	return r
}

func gone(t *testing.T, c commit.Commit) api.Record {
	t.Helper()
	r, e := commit.Gone(c, 0)
	if e != api.OK {
		t.Fatal(c, e)
	}
	return r
}

// P21.1, P21.2
func TestCheck(t *testing.T) {
	for i, c := range []struct {
		c commit.Commit
		e api.Errno
	}{
		{commit.Commit{Group: "g", Topic: "t"}, api.OK}, {commit.Commit{Group: long(20), Topic: long(32), Index: 7, Offset: api.MaxOffset}, api.OK},
		{commit.Commit{Topic: "t", Index: -1}, api.ErrName}, {commit.Commit{Group: long(21), Topic: "t"}, api.ErrName}, {commit.Commit{Group: "g"}, api.ErrName}, {commit.Commit{Group: "g", Topic: long(33)}, api.ErrName},
		{commit.Commit{Group: "g", Topic: "t", Index: 8}, api.ErrRange}, {commit.Commit{Group: "g", Topic: "t", Index: -1}, api.ErrRange},
		{commit.Commit{Group: "g", Topic: "t", Offset: -1}, api.ErrRange}, {commit.Commit{Group: "g", Topic: "t", Offset: api.MaxOffset + 1}, api.ErrRange},
	} {
		_, e := commit.Put(c.c, 0)
		_, f := commit.Gone(c.c, 0)
		if commit.Check(c.c) != c.e || e != c.e || f != c.e {
			t.Error(i, commit.Check(c.c), e, f)
		}
	}
	for _, time := range []int{-1, api.MaxTime + 1, math.MinInt} {
		r, e := commit.Put(commit.Commit{Group: "g", Topic: "t"}, time)
		s, f := commit.Gone(commit.Commit{Group: "g", Topic: "t"}, time)
		if e != api.ErrRange || f != api.ErrRange || r != (api.Record{}) || s != (api.Record{}) {
			t.Error(time, e, f)
		}
	}
	if r := put(t, commit.Commit{Group: "g", Topic: "t"}, api.MaxTime); r.Time != api.MaxTime {
		t.Error(r)
	}
	if _, e := commit.Put(commit.Commit{}, -1); e != api.ErrName {
		t.Error(e)
	}
}

// P21.2
func TestPut(t *testing.T) {
	c := commit.Commit{Group: "g", Topic: "t", Index: 1, Offset: 64}
	if r := put(t, c, 5); r != (api.Record{Time: 5, Keyed: true, Key: "\x02g\x02t\x01", Value: "\x80\x01"}) {
		t.Error(r)
	}
	if r := gone(t, c); r != (api.Record{Keyed: true, Dead: true, Key: "\x02g\x02t\x01"}) {
		t.Error(r)
	}
}

// P21.3
func TestGet(t *testing.T) {
	c := commit.Commit{Group: "g", Topic: "t", Index: 1, Offset: 64}
	r := put(t, c, 5)
	r.Delta, r.Time = -9, math.MinInt
	if got, e := commit.Get(r); got != c || e != api.OK {
		t.Error(got, e)
	}
	c.Offset = 0
	if got, e := commit.Get(gone(t, c)); got != c || e != api.OK {
		t.Error(got, e)
	}
	for i, r := range []api.Record{
		{}, {Keyed: true, Value: "\x00"}, {Key: "\x02g\x02t\x01", Value: "\x00"}, {Keyed: true, Key: "\x02g\x02t\x01"}, {Keyed: true, Key: "\x02g\x02t\x01", Value: "\x00\x00"}, {Keyed: true, Key: "\x02g\x02t\x01", Value: "\x01"},
		{Keyed: true, Key: "\x02g\x02t", Value: "\x00"}, {Keyed: true, Key: "\x02g\x02t\x01\x00", Value: "\x00"}, {Keyed: true, Key: "\x02g\x02t\x08", Value: "\x00"}, {Keyed: true, Key: "\x00\x02t\x01", Value: "\x00"},
		{Keyed: true, Key: "\x02g\x02t\x01", Dead: true, Value: "\x00"}, {Dead: true, Key: "\x02g\x02t\x01"}, {Keyed: true, Key: "\x82\x00g\x02t\x01", Value: "\x00"}, {Keyed: true, Key: "\x2a" + long(21) + "\x02t\x01", Value: "\x00"},
		{Keyed: true, Key: "\x02g\x02t\x01", Value: "\xfe\xff\xff\xff\xff\xff\xff\xff\xff\x01"},
	} {
		if c, e := commit.Get(r); e != api.ErrForm || c != (commit.Commit{}) {
			t.Error(i, c, e)
		}
	}
}

// P21.4
func TestPlay(t *testing.T) {
	of := func(group, topic string, index, offset int) commit.Commit {
		return commit.Commit{Group: group, Topic: topic, Index: index, Offset: offset}
	}
	b := api.Batch{Records: []api.Record{put(t, of("g", "t", 1, 5), 0), put(t, of("g", "s", 2, 6), 0), {Value: "no commit"}, put(t, of("a", "z", 0, 7), 0), put(t, of("g", "t", 0, 8), 0), put(t, of("g", "t", 1, 9), 0)}}
	want := []commit.Commit{of("a", "z", 0, 7), of("g", "s", 2, 6), of("g", "t", 0, 8), of("g", "t", 1, 9)}
	l := commit.Play(nil, b)
	if !commit.Same(l, want) {
		t.Error(l)
	}
	m := commit.Play(l, api.Batch{Records: []api.Record{gone(t, of("g", "s", 2, 0)), gone(t, of("x", "s", 2, 0)), put(t, of("a", "z", 0, 1), 0)}})
	if !commit.Same(m, []commit.Commit{of("a", "z", 0, 1), want[2], want[3]}) || !commit.Same(l, want) {
		t.Error(m, l)
	}
	odd := []commit.Commit{of("b", "t", 0, 1), of("z", "t", 0, 2), of("a", "t", 0, 3), of("z", "t", 0, 4)}
	if l := commit.Play(odd, api.Batch{Records: []api.Record{put(t, of("c", "t", 0, 9), 0)}}); !commit.Same(l, []commit.Commit{odd[0], of("c", "t", 0, 9), odd[1], odd[2], odd[3]}) {
		t.Error(l)
	}
	if l := commit.Play(odd, api.Batch{Records: []api.Record{gone(t, of("z", "t", 0, 9))}}); !commit.Same(l, []commit.Commit{odd[0], odd[2], odd[3]}) {
		t.Error(l)
	}
	if offset, ok := commit.Find(odd, "z", "t", 0); offset != 2 || !ok {
		t.Error(offset)
	}
	for _, c := range []commit.Commit{of("z", "t", 1, 0), of("z", "s", 0, 0), of("y", "t", 0, 0)} {
		if offset, ok := commit.Find(odd, c.Group, c.Topic, c.Index); offset != 0 || ok {
			t.Error(c)
		}
	}
}

// P21.5
func TestSame(t *testing.T) {
	a := []commit.Commit{{Group: "a"}, {Group: "b"}}
	if commit.Same(a, a[:1]) || commit.Same(a, []commit.Commit{a[1], a[0]}) || commit.Same(a, []commit.Commit{a[0], {Group: "b", Offset: 1}}) || !commit.Same(nil, a[:0]) || !commit.Same(a, a) {
		t.Error("same")
	}
}

// P21.6
func TestLastIsFound(t *testing.T) {
	r := rand.New(rand.NewPCG(21, 21))
	for range 200 {
		b := api.Batch{Count: 32}
		last := map[commit.Commit]int{}
		for d := range 32 {
			key := commit.Commit{Group: string(rune('a' + r.IntN(3))), Topic: string(rune('a' + r.IntN(2))), Index: r.IntN(2)}
			c := key
			c.Offset = r.IntN(100)
			x := put(t, c, 1)
			last[key] = c.Offset
			if r.IntN(4) == 0 {
				x = gone(t, c)
				delete(last, key)
			}
			x.Delta = d
			b.Records = append(b.Records, x)
		}
		l := commit.Play(nil, b)
		if len(l) != len(last) {
			t.Fatal(l)
		}
		for key, want := range last {
			if offset, ok := commit.Find(l, key.Group, key.Topic, key.Index); !ok || offset != want {
				t.Fatal(key, offset)
			}
		}
		var m []commit.Commit
		for _, c := range compact.Clean([]api.Batch{b}, 0, 0) {
			m = commit.Play(m, c)
		}
		if !commit.Same(l, m) {
			t.Fatal(l, m)
		}
	}
}
