package varnum_test

import (
	"bytes"
	"math"
	"math/rand/v2"
	"testing"

	"bilander/api"
	"bilander/varnum"
)

// numbers lists edges of all sizes and some in between.
func numbers() []int {
	l := []int{0, 1, -1, 63, 64, -64, -65, math.MaxInt, math.MinInt}
	r := rand.New(rand.NewPCG(1, 1))
	for i := range 64 {
		l = append(l, 1<<i, 1<<i-1, -1<<i, int(r.Uint64()>>i), -int(r.Uint64()>>i))
	}
	return l
}

// P1.1
func TestZigzag(t *testing.T) {
	for n, u := range map[int64]uint64{0: 0, -1: 1, 1: 2, -2: 3, math.MaxInt64: math.MaxUint64 - 1, math.MinInt64: math.MaxUint64} {
		if varnum.Zigzag(n) != u || varnum.Zagzig(u) != n {
			t.Errorf("%d: %d, %d", n, varnum.Zigzag(n), varnum.Zagzig(u))
		}
	}
	for _, n := range numbers() {
		if varnum.Zagzig(varnum.Zigzag(int64(n))) != int64(n) || varnum.Zigzag(varnum.Zagzig(uint64(n))) != uint64(n) {
			t.Error(n)
		}
	}
}

// P1.2
func TestPutBytes(t *testing.T) {
	for n, want := range map[int]string{0: "\x00", -1: "\x01", 1: "\x02", 63: "\x7e", 64: "\x80\x01", math.MinInt: "\xff\xff\xff\xff\xff\xff\xff\xff\xff\x01"} {
		if got := varnum.Put(n); string(got) != want {
			t.Errorf("%d: %x", n, got)
		}
	}
}

// P1.2
func TestGetErrors(t *testing.T) {
	ff := func(n int, tail ...byte) []byte { return append(bytes.Repeat([]byte{0xff}, n), tail...) }
	for _, c := range []struct {
		b []byte
		e api.Errno
	}{
		{nil, api.ErrCut}, {ff(1), api.ErrCut}, {ff(9), api.ErrCut}, {ff(10), api.ErrForm}, {ff(11), api.ErrForm}, {ff(10, 1), api.ErrForm},
		{ff(9, 2), api.ErrForm}, {ff(9, 0), api.ErrForm}, {ff(9, 1), api.OK}, {ff(1, 0), api.ErrForm}, {[]byte{0x80, 0x80, 0}, api.ErrForm}, {[]byte{0, 0x80}, api.OK},
	} {
		n, size, e := varnum.Get(c.b)
		if e != c.e || e != api.OK && (n != 0 || size != 0) {
			t.Errorf("%x: %d %d %v", c.b, n, size, e)
		}
	}
}

// P1.3
func TestFixed(t *testing.T) {
	for _, c := range []struct {
		n     uint64
		width int
		want  string
	}{{258, 3, "\x00\x01\x02"}, {258, 1, "\x02"}, {258, 0, ""}, {258, -5, ""}, {1, 9, "\x00\x00\x00\x00\x00\x00\x00\x01"}, {math.MaxUint64, math.MaxInt, "\xff\xff\xff\xff\xff\xff\xff\xff"}} {
		if got := varnum.Fixed(c.n, c.width); string(got) != c.want {
			t.Errorf("%d %d: %x", c.n, c.width, got)
		}
	}
	if varnum.Unfixed(nil) != 0 || varnum.Unfixed([]byte{1, 2}) != 258 || varnum.Unfixed([]byte{9, 9, 0, 0, 0, 0, 0, 0, 1, 2}) != 258 {
		t.Error("unfixed")
	}
}

// P1.4
func TestText(t *testing.T) {
	if string(varnum.Text("ab")) != "\x04ab" || string(varnum.Text("")) != "\x00" {
		t.Error("text")
	}
}

// P1.4
func TestReaderTakes(t *testing.T) {
	b := []byte("\x06abc\x00\x01\x03rest")
	r := varnum.New(b)
	b[1] = 'z'
	if s := r.Text(3); s != "abc" {
		t.Error(s)
	}
	if n := r.Fixed(2); n != 1 {
		t.Error(n)
	}
	if n := r.Num(); n != -2 || r.Left() != 4 || r.Err() != api.OK || r.Done() != api.ErrForm || r.Err() != api.OK {
		t.Error(n, r.Left(), r.Err())
	}
	if n := varnum.New([]byte{0x80}).Num(); n != 0 {
		t.Error(n)
	}
	if q := varnum.New([]byte{2}); q.Num() != 1 || q.Done() != api.OK || q.Left() != 0 {
		t.Error("done")
	}
	if q := varnum.New([]byte{2, 2}); q.Num() != 1 || q.Done() != api.ErrForm || q.Num() != 1 || q.Done() != api.OK {
		t.Error("done with a byte left")
	}
	if r.Fixed(9) != 0 || r.Err() != api.ErrCut || r.Left() != 4 || r.Done() != api.ErrCut {
		t.Error(r.Left(), r.Err())
	}
	if r.Fixed(1) != 0 || r.Num() != 0 || r.Text(9) != "" || r.Left() != 4 || r.Err() != api.ErrCut {
		t.Error("taken behind an error")
	}
}

// P1.4
func TestReaderErrors(t *testing.T) {
	for _, c := range []struct {
		b    string
		most int
		left int
		e    api.Errno
	}{{"\x08abcd", 3, 4, api.ErrLong}, {"\x01abcd", 3, 4, api.ErrLong}, {"\x02a", -1, 1, api.ErrLong}, {"\x00", -1, 0, api.OK}, {"\x08abc", 9, 3, api.ErrCut}, {"", 9, 0, api.ErrCut}, {"\x80\x00", 9, 2, api.ErrForm}} {
		r := varnum.New([]byte(c.b))
		if s := r.Text(c.most); s != "" || r.Left() != c.left || r.Err() != c.e {
			t.Errorf("%q: %q %d %v", c.b, s, r.Left(), r.Err())
		}
	}
	var none *varnum.Reader
	if none.Num() != 0 || none.Fixed(8) != 0 || none.Text(8) != "" || none.Left() != 0 || none.Err() != api.ErrNil || none.Done() != api.ErrNil {
		t.Error("nil")
	}
}

// P1.5
func TestAsItWas(t *testing.T) {
	for _, n := range numbers() {
		b := varnum.Put(n)
		got, size, e := varnum.Get(append(b[:len(b):len(b)], 0x80, 0))
		if got != n || size != len(b) || e != api.OK {
			t.Error(n, got, size, e)
		}
		width := int(uint64(n) % 9)
		if u := varnum.Unfixed(varnum.Fixed(uint64(n), 8)); u != uint64(n) {
			t.Error(n, u)
		}
		r := varnum.New(append(append(varnum.Text(string(b)), varnum.Fixed(uint64(n), width)...), "tail"...))
		if r.Text(10) != string(b) || r.Fixed(width) != uint64(n)&(1<<(8*width)-1) || r.Left() != 4 || r.Err() != api.OK {
			t.Error(n, width)
		}
	}
}
