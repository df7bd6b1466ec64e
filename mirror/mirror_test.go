package mirror_test

import (
	"math"
	"math/rand/v2"
	"strings"
	"testing"

	"bilander/api"
	"bilander/broker"
	"bilander/mirror"
	"bilander/zone"
)

func fresh(t *testing.T, blocks int) (*zone.Dev, *broker.Broker) {
	t.Helper()
	d, _ := zone.New(32, 8)
	x, e := broker.Format(d, config(blocks))
	if e != api.OK {
		t.Fatal(e)
	}
	if a := x.Ask(api.Request{Kind: api.Create, Topic: "t", Parts: 2}); a.Err != api.OK {
		t.Fatal(a)
	}
	return d, x
}

func config(blocks int) api.Config {
	return api.Config{Time: -1, Blocks: blocks, Patience: 9, Size: 1000, Rate: 1000}
}

func produce(t *testing.T, x *broker.Broker, l ...api.Batch) {
	t.Helper()
	for _, b := range l {
		if a := x.Ask(api.Request{Kind: api.Produce, Topic: "t", Batch: b}); a.Err != api.OK {
			t.Fatal(b, a)
		}
	}
}

// two tells a batch of two records, at Deltas with a gap between.
func two(key string) api.Batch {
	return api.Batch{Count: 4, Records: []api.Record{{Delta: 1, Time: 5, Keyed: true, Key: key, Value: "v"}, {Delta: 3, Value: key}}}
}

var first = mirror.Mirror{Topic: "t", Producer: 9}

func batches(x *broker.Broker) []api.Batch {
	p, _ := x.Part(api.Part{Topic: 1})
	return p.Batches()
}

// P31.1
func TestCheck(t *testing.T) {
	for i, c := range []struct {
		m mirror.Mirror
		e api.Errno
	}{
		{first, api.OK}, {mirror.Mirror{Topic: "t t", Index: 7, Producer: api.MaxTime, At: api.MaxOffset, Seq: api.MaxSeq}, api.OK},
		{mirror.Mirror{Index: -1}, api.ErrName}, {mirror.Mirror{Topic: "_t", Producer: 1}, api.ErrName}, {mirror.Mirror{Topic: "t", Index: 8, Producer: 1}, api.ErrRange}, {mirror.Mirror{Topic: "t", Index: -1, Producer: 1}, api.ErrRange},
		{mirror.Mirror{Topic: "t"}, api.ErrRange}, {mirror.Mirror{Topic: "t", Producer: api.MaxTime + 1}, api.ErrRange}, {mirror.Mirror{Topic: "t", Producer: 1, At: -1}, api.ErrRange}, {mirror.Mirror{Topic: "t", Producer: 1, At: api.MaxOffset + 1}, api.ErrRange},
		{mirror.Mirror{Topic: "t", Producer: 1, Seq: -1}, api.ErrRange}, {mirror.Mirror{Topic: "t", Producer: 1, Seq: api.MaxSeq + 1}, api.ErrRange},
	} {
		if e := mirror.Check(c.m); e != c.e {
			t.Error(i, e)
		}
	}
}

// P31.2
func TestStep(t *testing.T) {
	_, from := fresh(t, -1)
	_, to := fresh(t, -1)
	if m, did, e := mirror.Step(first, from, to); m != first || did || e != api.OK {
		t.Error(m, did, e)
	}
	produce(t, from, two("a"), api.Batch{Count: 3}, two("b"))
	m := first
	for i, want := range []mirror.Mirror{{"t", 0, 9, 4, 2}, {"t", 0, 9, 7, 2}, {"t", 0, 9, 11, 4}} {
		n, did, e := mirror.Step(m, from, to)
		if n != want || !did || e != api.OK {
			t.Error(i, n, did, e)
		}
		m = n
	}
	if n, did, e := mirror.Step(m, from, to); n != m || did || e != api.OK {
		t.Error(n, did, e)
	}
	l := batches(to)
	if len(l) != 2 || l[1].Base != 2 || l[1].Count != 2 || l[1].Producer != 9 || l[1].Epoch != 0 || l[1].Seq != 2 || l[1].Records[0] != (api.Record{Time: 5, Keyed: true, Key: "b", Value: "v"}) || l[1].Records[1].Delta != 1 {
		t.Error(l)
	}
	if p, _ := to.Part(api.Part{Topic: 1}); p.Safe() != 4 {
		t.Error("not flushed")
	}
	n, did, e := mirror.Step(mirror.Mirror{Topic: "t", Producer: 9, At: 2, Seq: 7}, from, to) // the last of the first batch
	if did || e != api.ErrOrder || n.At != 2 {
		t.Error(n, did, e)
	}
	other := mirror.Mirror{Topic: "t", Producer: 8, At: 2}
	if n, did, e := mirror.Step(other, from, to); n != (mirror.Mirror{"t", 0, 8, 4, 1}) || !did || e != api.OK || len(batches(to)[2].Records) != 1 {
		t.Error(n, did, e)
	}
	if n, did, e := mirror.Step(first, from, to); n != (mirror.Mirror{"t", 0, 9, 4, 2}) || !did || e != api.OK || len(batches(to)) != 3 {
		t.Error("a double", n, did, e)
	}
}

// P31.2
func TestStepErrors(t *testing.T) {
	d, from := fresh(t, -1)
	_, to := fresh(t, -1)
	produce(t, from, two("a"))
	for i, c := range []struct {
		m        mirror.Mirror
		from, to *broker.Broker
		e        api.Errno
	}{
		{mirror.Mirror{}, nil, to, api.ErrNil}, {mirror.Mirror{}, from, nil, api.ErrNil}, {mirror.Mirror{}, from, to, api.ErrName}, {mirror.Mirror{Topic: "u", Producer: 1}, from, to, api.ErrNone},
		{mirror.Mirror{Topic: "t", Index: 2, Producer: 1}, from, to, api.ErrNone}, {mirror.Mirror{Topic: "t", Producer: 1, At: 5}, from, to, api.ErrOffset}, {mirror.Mirror{Topic: "t", Producer: 1, Seq: 1}, from, to, api.ErrOrder},
	} {
		if m, did, e := mirror.Step(c.m, c.from, c.to); m != c.m || did || e != c.e {
			t.Error(i, m, did, e)
		}
	}
	d.Fail(0, false)
	from.Ask(api.Request{Kind: api.Produce, Topic: "t", Flush: true, Batch: two("a")})
	if m, did, e := mirror.Step(first, from, to); m != first || did || e != api.ErrState {
		t.Error(m, did, e)
	}
}

// P31.2: what is gone is passed over.
func TestStart(t *testing.T) {
	_, from := fresh(t, 4)
	_, to := fresh(t, -1)
	for range 20 {
		produce(t, from, two("a"))
	}
	for did := true; did; {
		did, _ = from.Work()
	}
	p, _ := from.Part(api.Part{Topic: 1})
	if m, did, e := mirror.Step(first, from, to); p.Start() == 0 || m != (mirror.Mirror{"t", 0, 9, p.Start(), 0}) || !did || e != api.OK || len(batches(to)) != 0 {
		t.Error(m, did, e)
	}
	second := mirror.Mirror{Topic: "t", Index: 1, Producer: 9}
	for range 12 {
		from.Ask(api.Request{Kind: api.Produce, Topic: "t", Index: 1, Batch: two("a")})
	}
	for did := true; did; {
		did, _ = from.Work()
	}
	q, _ := from.Part(api.Part{Topic: 1, Index: 1})
	if m, did, e := mirror.Step(second, from, to); q.Start() == 0 || q.Start() == p.Start() || m != (mirror.Mirror{"t", 1, 9, q.Start(), 0}) || !did || e != api.OK {
		t.Error(m, did, e)
	}
	if m, n, e := mirror.Run(first, from, to, 99); e != api.OK || n != 1+len(batches(from)) || m.At != 80 || !mirror.Same(from, to, "t", 0) {
		t.Error(m, n, e)
	}
}

// P31.2: sequences go round.
func TestRound(t *testing.T) {
	_, from := fresh(t, -1)
	_, to := fresh(t, -1)
	produce(t, from, two("a"), two("b"))
	produce(t, to, api.Batch{Count: 1, Producer: 9})
	m := mirror.Mirror{Topic: "t", Producer: 9, Seq: 1}
	m, _, e := mirror.Step(m, from, to)
	if e != api.OK || m.Seq != 3 {
		t.Error(m, e)
	}
	m.Seq = api.MaxSeq
	if n, _, e := mirror.Step(m, from, to); n != m || e != api.ErrOrder {
		t.Error(n, e)
	}
	last := mirror.Mirror{Topic: "t", Producer: 9, At: 8, Seq: api.MaxSeq}
	if n, did, e := mirror.Step(last, from, to); n != last || did || e != api.OK {
		t.Error(n, e)
	}
}

// P31.3
func TestRun(t *testing.T) {
	_, from := fresh(t, -1)
	_, to := fresh(t, -1)
	produce(t, from, two("a"), two("b"), two("c"))
	for _, most := range []int{0, -1, math.MinInt} {
		if m, n, e := mirror.Run(first, from, to, most); m != first || n != 0 || e != api.OK {
			t.Error(m, n, e)
		}
	}
	if m, n, e := mirror.Run(first, nil, to, 0); m != first || n != 0 || e != api.OK {
		t.Error(m, n, e)
	}
	if m, n, e := mirror.Run(first, nil, to, 1); m != first || n != 0 || e != api.ErrNil {
		t.Error(m, n, e)
	}
	m, n, e := mirror.Run(first, from, to, 1)
	if m.At != 4 || n != 1 || e != api.OK {
		t.Error(m, n, e)
	}
	if m, n, e := mirror.Run(m, from, to, math.MaxInt); m.At != 12 || m.Seq != 6 || n != 2 || e != api.OK || !mirror.Same(from, to, "t", 0) {
		t.Error(m, n, e)
	}
	// from the At of two steps ago: two doubles
	if m, n, e := mirror.Run(m, from, to, 99); m.At != 12 || n != 2 || e != api.OK || !mirror.Same(from, to, "t", 0) {
		t.Error(m, n, e)
	}
	to.Ask(api.Request{Kind: api.Remove, Topic: "t"})
	if got, n, e := mirror.Run(m, from, to, 99); got != m || n != 0 || e != api.ErrNone {
		t.Error(got, n, e)
	}
}

// P31.4
func TestAgain(t *testing.T) {
	_, to := fresh(t, -1)
	m := mirror.Mirror{Topic: "t", Index: 1, Producer: 9, At: 3, Seq: 4}
	if got, e := mirror.Again(m, to); got != m || e != api.OK {
		t.Error(got, e)
	}
	if got, e := mirror.Again(mirror.Mirror{}, nil); got != (mirror.Mirror{}) || e != api.ErrNil {
		t.Error(got, e)
	}
	if got, e := mirror.Again(mirror.Mirror{Topic: "t"}, to); got != (mirror.Mirror{}) || e != api.ErrRange {
		t.Error(got, e)
	}
}

// P31.5
func TestSame(t *testing.T) {
	_, from := fresh(t, -1)
	_, to := fresh(t, -1)
	if !mirror.Same(from, to, "t", 0) || mirror.Same(nil, to, "t", 0) || mirror.Same(from, nil, "t", 0) || mirror.Same(from, to, "u", 0) || mirror.Same(from, to, "t", 2) || mirror.Same(from, to, "t", -1) {
		t.Error("empty parts")
	}
	produce(t, from, two("a"))
	if mirror.Same(from, to, "t", 0) || !mirror.Same(from, to, "t", 1) {
		t.Error("one more")
	}
	b := two("a")
	produce(t, to, api.Batch{Count: 1, Records: []api.Record{{Time: 5, Keyed: true, Key: "a", Value: "v"}}}, api.Batch{Count: 1})
	if mirror.Same(from, to, "t", 0) {
		t.Error("one less")
	}
	produce(t, to, api.Batch{Count: 1, Records: []api.Record{{Value: "a"}}})
	if !mirror.Same(from, to, "t", 0) {
		t.Error("in other batches")
	}
	produce(t, from, b)
	b.Records[1].Time++
	produce(t, to, b)
	if mirror.Same(from, to, "t", 0) {
		t.Error("another time")
	}
}

// P31.6
func TestNoneTwice(t *testing.T) {
	r := rand.New(rand.NewPCG(31, 31))
	for range 60 {
		_, from := fresh(t, -1)
		d, to := fresh(t, -1)
		kept, m := first, first
		behind := 0 // batches since it was kept
		for i := range 40 {
			produce(t, from, two(strings.Repeat("k", i)))
			if r.IntN(3) == 0 {
				d.Fail(r.IntN(6), r.IntN(2) == 0)
			}
			next, n, e := mirror.Run(m, from, to, 1+r.IntN(2))
			m, behind = next, behind+n
			if e != api.OK {
				d.Crash([]byte{byte(r.IntN(256)), byte(r.IntN(256))})
				y, e := broker.Open(d, config(-1))
				if e != api.OK {
					t.Fatal(e)
				}
				to = y
				if m, e = mirror.Again(kept, to); e != api.OK {
					t.Fatal(e)
				}
				behind = 0
			}
			if behind >= 3 {
				kept, behind = m, 0
			}
		}
		d.Crash([]byte{255, 255, 255})
		to, _ = broker.Open(d, config(-1))
		if _, _, e := mirror.Run(m, from, to, 99); e != api.OK || !mirror.Same(from, to, "t", 0) {
			t.Fatal(e)
		}
	}
}
