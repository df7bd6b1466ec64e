package view_test

import (
	"math"
	"math/rand/v2"
	"slices"
	"strconv"
	"strings"
	"testing"

	"bilander/api"
	"bilander/compact"
	"bilander/journal"
	"bilander/part"
	"bilander/retain"
	"bilander/view"
	"bilander/zone"
)

func keyed(delta int, key, value string) api.Record {
	return api.Record{Delta: delta, Time: 5, Keyed: true, Key: key, Value: value}
}

func dead(delta int, key string) api.Record {
	return api.Record{Delta: delta, Time: 5, Keyed: true, Key: key, Dead: true}
}

func of(base int, l ...api.Record) api.Batch { return api.Batch{Base: base, Count: 32, Records: l} }

func sample() view.View {
	return view.View{Next: 10, Rows: []view.Row{{"a", "1", 3, 5}, {"ab", "2", 9, 5}, {"b", "3", 3, 0}}}
}

func many(n int) view.View {
	v := view.View{Next: n}
	for i := range n {
		v.Rows = append(v.Rows, view.Row{Key: strconv.Itoa(10000 + i), Offset: i})
	}
	return v
}

func long(n int) string { return strings.Repeat("x", n) }

// P36.1
func TestCheck(t *testing.T) {
	for i, v := range []view.View{{}, {Next: api.MaxOffset}, sample(), many(4096), {Next: 1, Rows: []view.Row{{long(64), long(512), 0, api.MaxTime}}}} {
		if e := view.Check(v); e != api.OK {
			t.Error(i, e)
		}
	}
	for i, c := range []struct {
		change func(*view.View)
		e      api.Errno
	}{
		{func(v *view.View) { v.Next = -1 }, api.ErrRange}, {func(v *view.View) { v.Next = api.MaxOffset + 1 }, api.ErrRange}, {func(v *view.View) { *v = many(4097); v.Rows[0].Key = long(65) }, api.ErrRange},
		{func(v *view.View) { v.Rows[1].Key = long(65) }, api.ErrLong}, {func(v *view.View) { v.Rows[1].Value = long(513) }, api.ErrLong}, {func(v *view.View) { v.Rows[1].Offset = 10 }, api.ErrRange}, {func(v *view.View) { v.Rows[1].Offset = -1 }, api.ErrRange},
		{func(v *view.View) { v.Rows[2].Time = -1 }, api.ErrRange}, {func(v *view.View) { v.Rows[2].Time = api.MaxTime + 1 }, api.ErrRange}, {func(v *view.View) { v.Rows[0].Time, v.Rows[1].Key = -1, long(65) }, api.ErrRange}, {func(v *view.View) { v.Rows[1].Time, v.Rows[0].Key = -1, long(65) }, api.ErrLong},
		{func(v *view.View) { v.Rows[1].Key = "a" }, api.ErrOrder}, {func(v *view.View) { v.Rows[1].Key = "" }, api.ErrOrder}, {func(v *view.View) { v.Rows[1].Key, v.Rows[2].Time = "a", -1 }, api.ErrRange},
	} {
		v := sample()
		c.change(&v)
		if e := view.Check(v); e != c.e {
			t.Error(i, e)
		}
	}
}

// P36.2
func TestApply(t *testing.T) {
	bad := sample()
	bad.Rows[1].Key = "a"
	for i, c := range []struct {
		v view.View
		b api.Batch
		e api.Errno
	}{
		{bad, api.Batch{}, api.ErrOrder}, {sample(), api.Batch{}, api.ErrRange}, {sample(), of(9), api.ErrOrder}, {many(4096), of(4096, keyed(0, "x", "")), api.ErrFull}, {many(4095), of(4095, keyed(0, "x", ""), keyed(1, "y", "")), api.ErrFull},
	} {
		if v, e := view.Apply(c.v, c.b); e != c.e || !view.Same(v, view.View{}) {
			t.Error(i, e)
		}
	}
	for i, c := range []struct {
		b    api.Batch
		want view.View
	}{
		{of(10), view.View{42, sample().Rows}},
		{of(20, keyed(0, "aa", "x"), api.Record{Delta: 1, Value: "y"}, keyed(2, "b", "z")), view.View{52, []view.Row{{"a", "1", 3, 5}, {"aa", "x", 20, 5}, {"ab", "2", 9, 5}, {"b", "z", 22, 5}}}},
		{of(10, dead(0, "ab"), dead(1, "c"), keyed(2, "d", ""), dead(3, "d"), keyed(4, "e", "5"), dead(5, "a"), keyed(6, "a", "6")), view.View{42, []view.Row{{"a", "6", 16, 5}, {"b", "3", 3, 0}, {"e", "5", 14, 5}}}},
	} {
		from := sample()
		if v, e := view.Apply(from, c.b); e != api.OK || !view.Same(v, c.want) || !view.Same(from, sample()) {
			t.Error(i, v, e)
		}
	}
	if v, e := view.Apply(many(4096), of(4096, keyed(0, "x", ""), dead(1, "10000"))); e != api.OK || len(v.Rows) != 4096 {
		t.Error(e)
	}
	if v, e := view.Apply(many(4096), of(4096, keyed(0, "10001", "new"))); e != api.OK || v.Rows[1].Value != "new" {
		t.Error(e)
	}
}

// P36.2
func TestBuild(t *testing.T) {
	if v, e := view.Build([]api.Batch{of(0, keyed(0, "a", "1"), keyed(1, "b", "2"), dead(2, "a"))}); e != api.OK || !view.Same(v, view.View{32, []view.Row{{"b", "2", 1, 5}}}) {
		t.Error(v, e)
	}
	if v, e := view.Build([]api.Batch{of(0, keyed(0, "a", "1")), of(31)}); e != api.ErrOrder || !view.Same(v, view.View{}) {
		t.Error(v, e)
	}
	if v, e := view.Build(nil); e != api.OK || !view.Same(v, view.View{}) {
		t.Error(v, e)
	}
}

// P36.3
func TestLooks(t *testing.T) {
	v := sample()
	if r, ok := view.Get(v, "ab"); !ok || r != v.Rows[1] {
		t.Error(r)
	}
	if r, ok := view.Get(v, "c"); ok || r != (view.Row{}) {
		t.Error(r)
	}
	for _, c := range []struct {
		prefix string
		most   int
		want   []view.Row
	}{{"a", 9, v.Rows[:2]}, {"a", 1, v.Rows[:1]}, {"", math.MaxInt, v.Rows}, {"ab", 9, v.Rows[1:2]}, {"abc", 9, nil}, {"a", 0, nil}, {"a", -1, nil}} {
		if l := view.Scan(v, c.prefix, c.most); !slices.Equal(l, c.want) {
			t.Error(c, l)
		}
	}
	for offset, want := range map[int][]view.Row{0: {v.Rows[0], v.Rows[2], v.Rows[1]}, 3: {v.Rows[0], v.Rows[2], v.Rows[1]}, 4: {v.Rows[1]}, 10: nil, math.MinInt: {v.Rows[0], v.Rows[2], v.Rows[1]}} {
		if l := view.Since(v, offset); !slices.Equal(l, want) {
			t.Error(offset, l)
		}
	}
	l := view.Scan(v, "", 9)
	l[0].Key = "z"
	if !view.Same(v, sample()) {
		t.Error("shared")
	}
}

// P36.4
func TestPutAndRead(t *testing.T) {
	v := view.View{Next: 70, Rows: []view.Row{{"a", "xy", 64, 5}, {"b", "", 1, 0}}}
	b, e := view.Put(v)
	if string(b) != "\x8c\x01\x04\x02a\x04xy\x80\x01\x0a\x02b\x00\x02\x00" || e != api.OK {
		t.Errorf("%x %v", b, e)
	}
	for i := range b {
		if v, e := view.Read(b[:i]); e != api.ErrForm || !view.Same(v, view.View{}) {
			t.Error(i, e)
		}
	}
	for _, c := range []string{string(b) + "\x00", "\x01\x00", "\x00\x01", "\x80\x00\x00", "\x04\x04\x02a\x00\x00\x00\x02a\x00\x00\x00", "\x04\x02\x02a\x00\x04\x00", "\x00\x82\x40", "\x00\xfe\xff\xff\xff\xff\xff\xff\xff\xff\x01"} {
		if v, e := view.Read([]byte(c)); e != api.ErrForm || !view.Same(v, view.View{}) {
			t.Errorf("%x %v", c, e)
		}
	}
	bad := sample()
	bad.Next = 9
	if b, e := view.Put(bad); b != nil || e != api.ErrRange {
		t.Error(e)
	}
	for _, v := range []view.View{sample(), many(4096), {}} {
		b, _ := view.Put(v)
		if got, e := view.Read(b); e != api.OK || !view.Same(got, v) {
			t.Error(e)
		}
	}
	if view.Same(sample(), view.View{Next: 9, Rows: sample().Rows}) || view.Same(sample(), view.View{Next: 10, Rows: sample().Rows[:2]}) || !view.Same(view.View{}, view.View{Rows: []view.Row{}}) {
		t.Error("same")
	}
}

func fresh(t *testing.T) *part.Part {
	t.Helper()
	d, _ := zone.New(30, 4)
	j, _ := journal.Format(d)
	j.Add(api.Meta{Kind: api.Makes, Name: "a", Parts: 1})
	x, e := part.Open(d, j, api.Part{})
	if e != api.OK {
		t.Fatal(e)
	}
	return x
}

func produce(t *testing.T, x *part.Part, l ...api.Record) {
	t.Helper()
	if _, _, e := x.Produce(api.Batch{Count: 2, Records: l}, true); e != api.OK {
		t.Fatal(e)
	}
}

// P36.5
func TestCatch(t *testing.T) {
	x := fresh(t)
	bad := sample()
	bad.Next = -1
	if v, n, e := view.Catch(bad, nil, 9); n != 0 || e != api.ErrNil || !view.Same(v, view.View{}) {
		t.Error(n, e)
	}
	if v, n, e := view.Catch(bad, x, 9); n != 0 || e != api.ErrRange || !view.Same(v, view.View{}) {
		t.Error(n, e)
	}
	if v, n, e := view.Catch(sample(), x, 9); n != 0 || e != api.ErrOffset || !view.Same(v, view.View{}) {
		t.Error(n, e)
	}
	if v, n, e := view.Catch(sample(), x, -1); n != 0 || e != api.OK || !view.Same(v, sample()) {
		t.Error(n, e)
	}
	for i := range 12 {
		produce(t, x, keyed(0, strconv.Itoa(i%3), long(50)), keyed(1, "k"+strconv.Itoa(i%3), ""))
	}
	v, n, e := view.Catch(view.View{}, x, 5)
	if n != 5 || e != api.OK || v.Next != 10 || len(v.Rows) != 6 {
		t.Error(v, n, e)
	}
	v, n, e = view.Catch(v, x, math.MaxInt)
	want, _ := view.Build(x.Batches())
	if n != 7 || e != api.OK || !view.Same(v, want) {
		t.Error(v, n, e)
	}
	if got, n, e := view.Catch(view.View{Next: 1}, x, 9); n != 0 || e != api.ErrOrder || !view.Same(got, view.View{}) {
		t.Error(n, e)
	}
	if _, e := x.Retain(retain.Rule{Time: -1, Blocks: 8}, 0); e != api.OK || x.Start() == 0 {
		t.Error(e)
	}
	old := view.View{Next: 2, Rows: []view.Row{{"gone", "v", 1, 0}}}
	if got, n, e := view.Catch(old, x, 1); n != 0 || e != api.OK || !view.Same(got, view.View{Next: x.Start(), Rows: old.Rows}) {
		t.Error(got, n, e)
	}
	if got, _, _ := view.Catch(old, x, 0); len(got.Rows) == 1 {
		got.Rows[0].Key = "changed"
	}
	if old.Rows[0].Key != "gone" {
		t.Error("shared")
	}
	got, n, e := view.Catch(old, x, 99)
	if _, there := view.Get(got, "gone"); n != len(x.Batches()) || e != api.OK || !there || got.Next != 24 || !view.Same(old, view.View{Next: 2, Rows: []view.Row{{"gone", "v", 1, 0}}}) {
		t.Error(got, n, e)
	}
}

// P36.6
func TestLastRecords(t *testing.T) {
	r := rand.New(rand.NewPCG(36, 36))
	for range 100 {
		x := fresh(t)
		last := map[string]api.Record{}
		v := view.View{}
		for range 12 {
			var l []api.Record
			for d := range 2 {
				key := string(rune('a' + r.IntN(5)))
				l = append(l, keyed(d, key, long(r.IntN(30))))
				if r.IntN(3) == 0 {
					l[d] = dead(d, key)
				}
				last[key] = l[d]
			}
			produce(t, x, l...)
			if r.IntN(3) == 0 {
				v, _, _ = view.Catch(v, x, 99)
				b, _ := view.Put(v)
				v, _ = view.Read(b)
			}
		}
		v, _, e := view.Catch(v, x, 99)
		whole, _ := view.Build(x.Batches())
		clean, _ := view.Build(compact.Clean(x.Batches(), 0, 0))
		if e != api.OK || !view.Same(v, whole) || !slices.Equal(v.Rows, clean.Rows) {
			t.Fatal(v, whole, clean, e)
		}
		for key, want := range last {
			if row, there := view.Get(v, key); there == want.Dead || there && row.Value != want.Value {
				t.Fatal(key, row, want)
			}
		}
	}
}
