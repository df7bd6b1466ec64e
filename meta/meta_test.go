package meta_test

import (
	"math"
	"slices"
	"strings"
	"testing"

	"bilander/api"
	"bilander/meta"
)

// good lists metas that may be, of each kind.
func good() []api.Meta {
	return []api.Meta{
		{Kind: api.Makes, Topic: 3, Parts: 1, Name: "a"},
		{Kind: api.Makes, Topic: api.MaxSeq, Parts: 8, Compact: true, Name: strings.Repeat("Z", 32)},
		{Kind: api.Deletes}, {Kind: api.Deletes, Topic: 7},
		{Kind: api.Links, Topic: 1, Index: 7, Zone: 63, Base: api.MaxOffset},
		{Kind: api.Unlinks, Topic: 1, Index: 1, Zone: 1},
		{Kind: api.Swaps, Topic: 1, Index: 1, Count: 64, Zone: 5, Base: 6},
		{Kind: api.Begins, Topic: 1, Index: 1, Base: 6},
		{Kind: api.Skips, Topic: 9},
	}
}

// P8.1
func TestName(t *testing.T) {
	for _, s := range []string{"a", "Z", "az.AZ_09-", "_offsets", strings.Repeat("x", 32), "-"} {
		if !meta.Name(s) {
			t.Error(s)
		}
	}
	for _, s := range []string{"", strings.Repeat("x", 33), "a b", "a/", "a:", "@", "[", "`", "{", "é", "\xff", "a\x00", ","} {
		if meta.Name(s) {
			t.Errorf("%q", s)
		}
	}
}

// P8.1
func TestCheck(t *testing.T) {
	for i, m := range good() {
		if e := meta.Check(m); e != api.OK {
			t.Error(i, e)
		}
	}
	for i, c := range []struct {
		m api.Meta
		e api.Errno
	}{
		{api.Meta{Kind: 7, Topic: -1}, api.ErrKind}, {api.Meta{Kind: 255}, api.ErrKind},
		{api.Meta{Kind: api.Makes, Parts: 1, Name: "a", Index: 1}, api.ErrForm},
		{api.Meta{Kind: api.Makes, Parts: 1, Name: "a", Zone: 99}, api.ErrForm},
		{api.Meta{Kind: api.Deletes, Parts: 1}, api.ErrForm}, {api.Meta{Kind: api.Deletes, Compact: true}, api.ErrForm},
		{api.Meta{Kind: api.Skips, Name: "a"}, api.ErrForm}, {api.Meta{Kind: api.Links, Count: -1}, api.ErrForm},
		{api.Meta{Kind: api.Unlinks, Base: 1}, api.ErrForm}, {api.Meta{Kind: api.Begins, Zone: 1}, api.ErrForm},
		{api.Meta{Kind: api.Deletes, Topic: -1}, api.ErrRange}, {api.Meta{Kind: api.Skips, Topic: api.MaxSeq + 1}, api.ErrRange},
		{api.Meta{Kind: api.Links, Index: 8}, api.ErrRange}, {api.Meta{Kind: api.Links, Index: -1}, api.ErrRange},
		{api.Meta{Kind: api.Links, Zone: 64}, api.ErrRange}, {api.Meta{Kind: api.Unlinks, Zone: -1}, api.ErrRange},
		{api.Meta{Kind: api.Begins, Base: -1}, api.ErrRange}, {api.Meta{Kind: api.Begins, Base: api.MaxOffset + 1}, api.ErrRange},
		{api.Meta{Kind: api.Swaps, Count: 65}, api.ErrRange}, {api.Meta{Kind: api.Swaps, Count: -1}, api.ErrRange},
		{api.Meta{Kind: api.Makes}, api.ErrRange}, {api.Meta{Kind: api.Makes, Parts: 9, Name: "a"}, api.ErrRange},
		{api.Meta{Kind: api.Makes, Parts: 1}, api.ErrName}, {api.Meta{Kind: api.Makes, Parts: 1, Name: "a b"}, api.ErrName},
	} {
		b, e := meta.Put(c.m)
		if meta.Check(c.m) != c.e || e != c.e || b != nil {
			t.Error(i, meta.Check(c.m), e)
		}
	}
}

// P8.2
func TestPut(t *testing.T) {
	for want, m := range map[string]api.Meta{
		"\x02\x02\x00\x0a\x80\x01":     {Kind: api.Links, Topic: 1, Zone: 5, Base: 64},
		"\x00\x02\x04\x02\x04ab":       {Kind: api.Makes, Topic: 1, Parts: 2, Compact: true, Name: "ab"},
		"\x00\x02\x04\x00\x02a":        {Kind: api.Makes, Topic: 1, Parts: 2, Name: "a"},
		"\x01\x02":                     {Kind: api.Deletes, Topic: 1},
		"\x03\x02\x04\x06":             {Kind: api.Unlinks, Topic: 1, Index: 2, Zone: 3},
		"\x04\x02\x04\x06\x08\x0a":     {Kind: api.Swaps, Topic: 1, Index: 2, Count: 3, Zone: 4, Base: 5},
		"\x05\x02\x04\x06":             {Kind: api.Begins, Topic: 1, Index: 2, Base: 3},
		"\x06\xfe\xff\xff\xff\x0f":     {Kind: api.Skips, Topic: api.MaxSeq},
		"\x02\x02\x00\x0a\x80\x80\x01": {Kind: api.Links, Topic: 1, Zone: 5, Base: 8192},
	} {
		if b, e := meta.Put(m); string(b) != want || e != api.OK {
			t.Errorf("%x %v", b, e)
		}
	}
}

// P8.2
func TestGetErrors(t *testing.T) {
	for _, b := range []string{"", "\x07", "\x01", "\x01\x02\x00", "\x01\x01", "\x01\x82\x00", "\x00\x02\x04\x04\x02a", "\x00\x02\x04\x01\x02a", "\x00\x02\x04\x00\x00", "\x00\x02\x04\x00\x02 ", "\xff\x00"} {
		if m, e := meta.Get([]byte(b)); e != api.ErrForm || m != (api.Meta{}) {
			t.Errorf("%x %v", b, e)
		}
	}
}

// P8.3
func TestPutAll(t *testing.T) {
	b, e := meta.PutAll(3, []api.Meta{{Kind: api.Deletes, Topic: 1}, {Kind: api.Skips}})
	if string(b) != "\x06\x04\x04\x01\x02\x04\x06\x00" || e != api.OK {
		t.Errorf("%x %v", b, e)
	}
	bad := []api.Meta{{Kind: api.Deletes}, {Kind: 9}, {Kind: api.Makes}}
	for gen, want := range map[int]api.Errno{-1: api.ErrRange, api.MaxTime + 1: api.ErrRange, math.MinInt: api.ErrRange, 0: api.ErrKind} {
		if b, e := meta.PutAll(gen, bad); b != nil || e != want {
			t.Error(gen, e)
		}
	}
	// 3 bytes each behind 1 and 2: 8192 bytes are 2729 and two thirds
	edge := slices.Repeat([]api.Meta{{Kind: api.Deletes}}, 2729)
	edge[0].Topic, edge[1].Topic = 64, 64 // a byte more each
	if b, e := meta.PutAll(0, edge); len(b) != api.MaxFrame || e != api.OK {
		t.Error(len(b), e)
	}
	edge[2].Topic = 64
	if b, e := meta.PutAll(0, edge); b != nil || e != api.ErrLong {
		t.Error(len(b), e)
	}
	for n, want := range map[int]api.Errno{2729: api.OK, 2730: api.ErrLong} {
		if _, e := meta.PutAll(0, make([]api.Meta, 0, n)); e != api.OK {
			t.Error(e)
		}
		l := slices.Repeat([]api.Meta{{Kind: api.Deletes}}, n)
		b, e := meta.PutAll(0, l)
		if e != want || e == api.OK && len(b) != 8190 {
			t.Error(n, len(b), e)
		}
		if gen, got, e := meta.GetAll(b); want == api.OK && (e != api.OK || gen != 0 || !slices.Equal(got, l)) {
			t.Error(n, e)
		}
	}
}

// P8.3
func TestGetAllErrors(t *testing.T) {
	long := "\x00\xd4\x2a" + strings.Repeat("\x04\x01\x00", 2730)
	for _, b := range []string{"", "\x00", "\x01\x00", "\x00\x01", "\x00\x02", "\x00\x00\x00", "\x00\x02\x02\x01", "\x00\x02\x06\x01\x00\x00", "\x00\x02\x00", "\x00\xfe\xff\xff\xff\xff\xff\xff\xff\xff\x01", "\x82\x80\x80\x80\x80\x40\x00", long} {
		if gen, l, e := meta.GetAll([]byte(b)); e != api.ErrForm || gen != 0 || l != nil {
			t.Errorf("%x %v", b[:min(len(b), 20)], e)
		}
	}
}

// P8.4
func TestSame(t *testing.T) {
	a := api.Meta{Kind: 1, Topic: 1, Index: 1, Name: "a", Parts: 1, Compact: true, Zone: 1, Base: 1, Count: 1}
	for i, change := range []func(*api.Meta){
		func(m *api.Meta) { m.Kind++ }, func(m *api.Meta) { m.Topic++ }, func(m *api.Meta) { m.Index++ }, func(m *api.Meta) { m.Name = "b" }, func(m *api.Meta) { m.Parts++ },
		func(m *api.Meta) { m.Compact = false }, func(m *api.Meta) { m.Zone++ }, func(m *api.Meta) { m.Base++ }, func(m *api.Meta) { m.Count++ },
	} {
		b := a
		change(&b)
		if meta.Same(a, b) || !meta.Same(b, b) {
			t.Error(i)
		}
	}
}

// P8.5
func TestAsItWas(t *testing.T) {
	for _, m := range good() {
		b, e := meta.Put(m)
		got, f := meta.Get(b)
		if e != api.OK || f != api.OK || !meta.Same(m, got) {
			t.Error(m, got, e, f)
		}
	}
	b, e := meta.PutAll(api.MaxTime, good())
	gen, l, f := meta.GetAll(b)
	if e != api.OK || f != api.OK || gen != api.MaxTime || !slices.Equal(l, good()) {
		t.Error(gen, l, e, f)
	}
}
