package batch_test

import (
	"math"
	"math/rand/v2"
	"strings"
	"testing"

	"bilander/api"
	"bilander/batch"
)

// full tells a batch of n records, whose bytes are many.
func full(n, value int) api.Batch {
	b := api.Batch{Base: 5, Count: max(n, 1)}
	for i := range n {
		b.Records = append(b.Records, api.Record{Delta: i, Value: strings.Repeat("v", value)})
	}
	return b
}

func records(deltas ...int) []api.Record {
	var l []api.Record
	for _, d := range deltas {
		l = append(l, api.Record{Delta: d, Time: 40 - d})
	}
	return l
}

// P4.1
func TestCheck(t *testing.T) {
	edge := full(16, 508)
	edge.Records[15].Value = ""
	short, _ := batch.Put(edge)
	edge.Records[15].Value = strings.Repeat("v", api.MaxFrame-len(short)-1) // its length has a byte more
	if b, e := batch.Put(edge); len(b) != api.MaxFrame || e != api.OK {
		t.Error(len(b), e)
	}
	edge.Records[15].Value += "v"
	if b, e := batch.Put(edge); b != nil || e != api.ErrLong {
		t.Error(len(b), e)
	}
	for i, c := range []struct {
		b api.Batch
		e api.Errno
	}{
		{api.Batch{Count: 1}, api.OK},
		{api.Batch{Count: 32, Base: api.MaxOffset - 32, Producer: api.MaxTime, Epoch: api.MaxEpoch, Seq: api.MaxSeq, Records: records(0, 5, 31)}, api.OK},
		{full(15, 512), api.OK},
		{full(16, 512), api.ErrLong},
		{full(32, 300), api.ErrLong},
		{api.Batch{}, api.ErrRange},
		{api.Batch{Count: 33}, api.ErrRange},
		{api.Batch{Count: 1, Base: -1}, api.ErrRange},
		{api.Batch{Count: 32, Base: api.MaxOffset - 31}, api.ErrRange},
		{api.Batch{Count: 1, Base: math.MaxInt}, api.ErrRange},
		{api.Batch{Count: 1, Producer: -1}, api.ErrRange},
		{api.Batch{Count: 1, Producer: api.MaxTime + 1}, api.ErrRange},
		{api.Batch{Count: 1, Producer: 1, Epoch: -1}, api.ErrRange},
		{api.Batch{Count: 1, Producer: 1, Epoch: api.MaxEpoch + 1}, api.ErrRange},
		{api.Batch{Count: 1, Seq: -1}, api.ErrRange},
		{api.Batch{Count: 1, Seq: api.MaxSeq + 1}, api.ErrRange},
		{api.Batch{Count: 1, Epoch: 1, Records: records(0, 1)}, api.ErrForm},
		{api.Batch{Count: 1, Seq: 1}, api.ErrForm},
		{api.Batch{Count: 1, Records: records(0, 40)}, api.ErrLong},
		{api.Batch{Count: 3, Records: records(0, 40)}, api.ErrRange},
		{api.Batch{Count: 3, Records: []api.Record{{Delta: 2}, {Delta: 1}, {Dead: true}}}, api.ErrOrder},
		{api.Batch{Count: 3, Records: []api.Record{{Dead: true}, {Delta: 1}}}, api.ErrForm},
		{api.Batch{Count: 3, Records: records(1, 1)}, api.ErrOrder},
		{api.Batch{Count: 3, Records: records(3)}, api.ErrOrder},
	} {
		b, e := batch.Put(c.b)
		if batch.Check(c.b) != c.e || e != c.e || (e == api.OK) != (len(b) > 0) {
			t.Error(i, batch.Check(c.b), e)
		}
	}
}

// P4.2
func TestPut(t *testing.T) {
	b, e := batch.Put(api.Batch{Base: 5, Count: 1, Records: []api.Record{{Value: "v"}}})
	if string(b) != "\x0a\x02\x00\x00\x00\x02\x00\x00\x00\x02v" || e != api.OK {
		t.Errorf("%x %v", b, e)
	}
}

// P4.2
func TestGetErrors(t *testing.T) {
	good := "\x0a\x02\x00\x00\x00\x02\x00\x00\x00\x02v"
	for i := range good {
		if x, e := batch.Get([]byte(good[:i])); e != api.ErrForm || !batch.Same(x, api.Batch{}) {
			t.Error(i, e)
		}
	}
	for _, b := range []string{
		good + "\x00", "\x0a\x00\x00\x00\x00\x00", "\x0b\x02\x00\x00\x00\x00", "\x0a\x02\x00\x00\x00\x01", "\x0a\x02\x00\x00\x00\x04\x00\x00\x00\x00\x00\x02\x00\x00",
		"\x0a\x02\x00\x00\x00\xfe\xff\xff\xff\xff\xff\xff\xff\xff\x01", "\x0a\x02\x00\x02\x00\x00", "\x8a\x00\x02\x00\x00\x00\x00", "\x0a\x04\x00\x00\x00\x02\x04\x00\x00\x00",
		"\x0a\x04\x00\x00\x00\x04\x00\x02\x00\x00\x00\x02\x00\x00",
	} {
		if x, e := batch.Get([]byte(b)); e != api.ErrForm || !batch.Same(x, api.Batch{}) {
			t.Errorf("%x %v", b, e)
		}
	}
}

// P4.3
func TestLooks(t *testing.T) {
	b := api.Batch{Base: 10, Count: 8, Records: records(1, 3, 6)}
	if batch.Next(b) != 18 || batch.Newest(b) != 39 || batch.Newest(api.Batch{}) != -1 || batch.Newest(api.Batch{Records: records(5)}) != 35 {
		t.Error("next, newest")
	}
	if batch.Next(api.Batch{Base: math.MaxInt, Count: 1}) != math.MinInt || batch.Newest(api.Batch{Records: []api.Record{{Time: -7}, {Time: -3}}}) != -3 {
		t.Error("odd numbers")
	}
	for offset, want := range map[int]bool{9: false, 10: false, 11: true, 12: false, 13: true, 16: true, 17: false} {
		r, ok := batch.At(b, offset)
		if ok != want || ok && r.Delta != offset-10 || !ok && r != (api.Record{}) {
			t.Error(offset, r, ok)
		}
	}
	for offset, want := range map[int]int{math.MinInt: 3, 11: 3, 12: 2, 13: 2, 14: 1, 16: 1, 17: 0, math.MaxInt: 0} {
		if l := batch.From(b, offset); len(l) != want || want > 0 && l[0] != b.Records[3-want] {
			t.Error(offset, l)
		}
	}
	two := api.Batch{Records: []api.Record{{Delta: 2, Value: "a"}, {Delta: 2, Value: "b"}}}
	if r, _ := batch.At(two, 2); r.Value != "a" {
		t.Error("the first one")
	}
	l := batch.From(b, 0)
	l[0].Time = 99
	if b.Records[0].Time == 99 {
		t.Error("shared")
	}
}

// P4.3
func TestSame(t *testing.T) {
	a := api.Batch{Base: 1, Count: 3, Producer: 1, Epoch: 1, Seq: 1, Records: records(0, 1)}
	for i, change := range []func(*api.Batch){
		func(b *api.Batch) { b.Base++ }, func(b *api.Batch) { b.Count++ }, func(b *api.Batch) { b.Producer++ }, func(b *api.Batch) { b.Epoch++ },
		func(b *api.Batch) { b.Seq++ }, func(b *api.Batch) { b.Records = records(0) }, func(b *api.Batch) { b.Records = records(0, 2) },
	} {
		b := a
		change(&b)
		if batch.Same(a, b) || !batch.Same(b, b) {
			t.Error(i)
		}
	}
	if !batch.Same(api.Batch{}, api.Batch{Records: []api.Record{}}) {
		t.Error("an empty list is none")
	}
}

// P4.4
func TestAsItWas(t *testing.T) {
	r := rand.New(rand.NewPCG(4, 4))
	for range 300 {
		b := api.Batch{Base: int(r.Uint64() >> 2 >> r.IntN(60)), Count: 1 + r.IntN(32), Producer: r.IntN(2) * r.IntN(api.MaxTime)}
		b.Base = min(b.Base, api.MaxOffset-b.Count)
		if b.Producer > 0 {
			b.Epoch, b.Seq = r.IntN(api.MaxEpoch+1), r.IntN(api.MaxSeq+1)
		}
		for d := range b.Count {
			if r.IntN(2) == 0 {
				b.Records = append(b.Records, api.Record{Delta: d, Time: r.IntN(1000), Keyed: true, Key: "k", Value: strings.Repeat("v", r.IntN(200))})
			}
		}
		bytes, e := batch.Put(b)
		got, f := batch.Get(bytes)
		if e != api.OK || f != api.OK || !batch.Same(b, got) {
			t.Fatal(b, e, f)
		}
		ahead := b.Base - 1
		for _, x := range got.Records {
			if b.Base+x.Delta <= ahead || b.Base+x.Delta >= batch.Next(b) {
				t.Fatal("order", b)
			}
			ahead = b.Base + x.Delta
		}
	}
}
