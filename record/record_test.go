package record_test

import (
	"math"
	"strings"
	"testing"

	"bilander/api"
	"bilander/record"
	"bilander/varnum"
)

func long(n int) string { return strings.Repeat("x", n) }

// P3.1
func TestCheck(t *testing.T) {
	for i, c := range []struct {
		r api.Record
		e api.Errno
	}{
		{api.Record{}, api.OK},
		{api.Record{Delta: 31, Time: api.MaxTime, Keyed: true, Key: long(64), Value: long(512)}, api.OK},
		{api.Record{Keyed: true, Dead: true}, api.OK},
		{api.Record{Keyed: true}, api.OK},
		{api.Record{Delta: -1}, api.ErrRange},
		{api.Record{Delta: 32, Keyed: true, Key: long(65)}, api.ErrRange},
		{api.Record{Time: -1}, api.ErrRange},
		{api.Record{Time: api.MaxTime + 1, Dead: true}, api.ErrRange},
		{api.Record{Time: math.MinInt}, api.ErrRange},
		{api.Record{Key: long(65)}, api.ErrLong},
		{api.Record{Value: long(513), Dead: true}, api.ErrLong},
		{api.Record{Key: "k"}, api.ErrForm},
		{api.Record{Dead: true}, api.ErrForm},
		{api.Record{Keyed: true, Dead: true, Value: "v"}, api.ErrForm},
	} {
		if e := record.Check(c.r); e != c.e {
			t.Error(i, e)
		}
		b, e := record.Put(c.r)
		if e != c.e || record.Size(c.r) != len(b) || (e == api.OK) != (len(b) > 0) {
			t.Error(i, b, e)
		}
	}
}

// P3.2
func TestPut(t *testing.T) {
	for want, r := range map[string]api.Record{
		"\x01\x02\x0a\x02k\x02v": {Delta: 1, Time: 5, Keyed: true, Key: "k", Value: "v"},
		"\x03\x02\x0a\x02k":      {Delta: 1, Time: 5, Keyed: true, Key: "k", Dead: true},
		"\x00\x00\x00\x00":       {},
		"\x01\x00\x00\x00\x00":   {Keyed: true},
	} {
		if b, e := record.Put(r); string(b) != want || e != api.OK {
			t.Errorf("%x %v", b, e)
		}
	}
}

// P3.2
func TestGetErrors(t *testing.T) {
	for b, want := range map[string]api.Errno{
		"":                         api.ErrCut,
		"\x00":                     api.ErrCut,
		"\x04\x00\x00\x00":         api.ErrForm,
		"\xff\x00\x00\x00":         api.ErrForm,
		"\x05\x00\x00\x00":         api.ErrCut, // a key, and then no value
		"\x06\x00\x00":             api.ErrForm,
		"\x02\x00\x00":             api.ErrForm,
		"\x00\x40\x00\x00":         api.ErrForm, // Delta 32
		"\x00\x01\x00\x00":         api.ErrForm, // Delta -1
		"\x00\x01\x00":             api.ErrCut,  // the reader's error is ahead of the fields'
		"\x00\x00\x01\x00":         api.ErrForm, // Time -1
		"\x00\x80\x00\x00\x00":     api.ErrForm, // a number with a byte too much
		"\x01\x00\x00\x82\x01":     api.ErrLong,
		"\x00\x00\x00\x82\x08":     api.ErrLong, // 513
		"\x01\x00\x00\x01":         api.ErrLong,
		"\x01\x00\x00\x02k\x04vvv": api.OK,
		"\x03\x00\x00\x80\x01" + strings.Repeat("k", 64): api.OK,
	} {
		r, e := record.Get(varnum.New([]byte(b)))
		if e != want || e != api.OK && r != (api.Record{}) {
			t.Errorf("%x: %v %v", b, r, e)
		}
	}
	if r, e := record.Get(nil); r != (api.Record{}) || e != api.ErrNil {
		t.Error("nil")
	}
	used := varnum.New([]byte("\x02a"))
	used.Text(0)
	if _, e := record.Get(used); e != api.ErrLong {
		t.Error("a reader's first error", e)
	}
}

// P3.2
func TestSame(t *testing.T) {
	a := api.Record{Delta: 1, Time: 2, Keyed: true, Key: "k", Value: "v"}
	for i, change := range []func(*api.Record){
		func(r *api.Record) { r.Delta++ }, func(r *api.Record) { r.Time++ }, func(r *api.Record) { r.Keyed = false },
		func(r *api.Record) { r.Key = "l" }, func(r *api.Record) { r.Dead = true }, func(r *api.Record) { r.Value = "" },
	} {
		b := a
		change(&b)
		if record.Same(a, b) || !record.Same(b, b) {
			t.Error(i)
		}
	}
}

// P3.3
func TestAsItWas(t *testing.T) {
	for n := range 64 {
		r := api.Record{Delta: n % 32, Time: 1<<(n%41) - n%2, Keyed: n%3 > 0, Dead: n%3 == 2}
		if r.Keyed {
			r.Key = long(n)
		}
		if !r.Dead {
			r.Value = long(8 * n)
		}
		b, e := record.Put(r)
		x := varnum.New(append(b, "tail"...))
		got, f := record.Get(x)
		if e != api.OK || f != api.OK || !record.Same(r, got) || x.Left() != 4 {
			t.Error(n, e, f, got, x.Left())
		}
	}
}
