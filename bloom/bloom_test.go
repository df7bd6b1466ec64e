package bloom_test

import (
	"math"
	"math/big"
	"slices"
	"strconv"
	"testing"

	"bilander/api"
	"bilander/bloom"
	"bilander/check"
)

const top = 1 << 40

func fresh(t *testing.T, size, each int) bloom.Set {
	t.Helper()
	s, e := bloom.New(size, each)
	if e != api.OK {
		t.Fatal(e)
	}
	return s
}

func bad() bloom.Set { return bloom.Set{Bits: []byte{255}, Each: 17, N: 3} }

// P33.1
func TestCheckAndNew(t *testing.T) {
	for i, c := range []struct {
		s bloom.Set
		e api.Errno
	}{
		{bloom.Set{Bits: make([]byte, 1), Each: 1}, api.OK}, {bloom.Set{Bits: make([]byte, 4096), Each: 16, N: top}, api.OK}, {bloom.Set{Each: 1}, api.ErrRange}, {bloom.Set{Bits: make([]byte, 4097), Each: 1}, api.ErrRange},
		{bloom.Set{Bits: make([]byte, 1)}, api.ErrRange}, {bad(), api.ErrRange}, {bloom.Set{Bits: make([]byte, 1), Each: 1, N: -1}, api.ErrRange}, {bloom.Set{Bits: make([]byte, 1), Each: 1, N: top + 1}, api.ErrRange},
	} {
		if e := bloom.Check(c.s); e != c.e {
			t.Error(i, e)
		}
	}
	if s := fresh(t, 8, 3); !bloom.Same(s, bloom.Set{Bits: make([]byte, 8), Each: 3}) {
		t.Error(s)
	}
	for _, c := range [][2]int{{0, 3}, {-1, 3}, {4097, 3}, {math.MinInt, 3}, {math.MaxInt, 3}, {8, 0}, {8, 17}} {
		if s, e := bloom.New(c[0], c[1]); e != api.ErrRange || !bloom.Same(s, bloom.Set{}) {
			t.Error(c, e)
		}
	}
}

// P33.2
func TestPlaces(t *testing.T) {
	for _, size := range []int{1, 3, 8, 4096} {
		s := fresh(t, size, 16)
		for n := range 50 {
			key := strconv.Itoa(n)
			h := check.Of([]byte(key))
			var want []int
			for i := range 16 { // with numbers of any size
				x := new(big.Int).Mul(big.NewInt(int64(i)), big.NewInt(int64(h&0xffffffff|1)))
				x.Add(x, big.NewInt(int64(h>>32)))
				x.Mod(x, big.NewInt(1<<32))
				want = append(want, int(x.Int64())%(8*size))
			}
			if l := bloom.Places(s, key); !slices.Equal(l, want) {
				t.Fatal(size, key, l, want)
			}
		}
	}
	if bloom.Places(bad(), "k") != nil {
		t.Error("refused")
	}
}

// P33.2
func TestAddAndHas(t *testing.T) {
	s := fresh(t, 8, 3)
	x := bloom.Add(s, "k")
	var want [8]byte
	for _, p := range bloom.Places(s, "k") {
		want[p/8] |= 1 << (p % 8)
	}
	if !bloom.Same(x, bloom.Set{Bits: want[:], Each: 3, N: 1}) || bloom.Full(s) != 0 || !bloom.Has(x, "k") || bloom.Has(s, "k") || bloom.Full(x) > 3 {
		t.Error(x, s)
	}
	x.N = top
	if y := bloom.Add(x, "l"); y.N != top {
		t.Error(y.N)
	}
	part := bloom.Set{Bits: slices.Clone(x.Bits), Each: 3}
	p := bloom.Places(s, "k")[2]
	part.Bits[p/8] &^= 1 << (p % 8)
	if bloom.Has(part, "k") {
		t.Error("a place is not set")
	}
	if y := bloom.Add(bad(), "k"); !bloom.Same(y, bad()) || bloom.Has(bad(), "k") {
		t.Error("refused")
	}
}

// P33.3
func TestJoinAndFull(t *testing.T) {
	a, b := bloom.Set{Bits: []byte{1, 2}, Each: 2, N: top - 1}, bloom.Set{Bits: []byte{3, 8}, Each: 2, N: 1}
	s, e := bloom.Join(a, b)
	if e != api.OK || !bloom.Same(s, bloom.Set{Bits: []byte{3, 10}, Each: 2, N: top}) || a.Bits[0] != 1 || bloom.Full(s) != 4 {
		t.Error(s, e)
	}
	b.N = 2
	if s, _ := bloom.Join(a, b); s.N != top {
		t.Error(s.N)
	}
	for i, c := range []struct {
		a, b bloom.Set
		e    api.Errno
	}{{bad(), a, api.ErrRange}, {a, bad(), api.ErrRange}, {a, bloom.Set{Bits: []byte{1}, Each: 2}, api.ErrArg}, {a, bloom.Set{Bits: []byte{1, 2}, Each: 3}, api.ErrArg}} {
		if s, e := bloom.Join(c.a, c.b); e != c.e || !bloom.Same(s, bloom.Set{}) {
			t.Error(i, e)
		}
	}
	if bloom.Full(bad()) != 8 || bloom.Full(bloom.Set{}) != 0 {
		t.Error("full")
	}
}

// P33.4
func TestPutAndGet(t *testing.T) {
	b, e := bloom.Put(bloom.Set{Bits: []byte{1, 255}, Each: 3, N: 64})
	if string(b) != "\x06\x80\x01\x04\x01\xff" || e != api.OK {
		t.Errorf("%x %v", b, e)
	}
	if b, e := bloom.Put(bad()); b != nil || e != api.ErrRange {
		t.Error(e)
	}
	for i := range b {
		if s, e := bloom.Get(b[:i]); e != api.ErrForm || !bloom.Same(s, bloom.Set{}) {
			t.Error(i, e)
		}
	}
	for _, b := range []string{"\x06\x80\x01\x04\x01\xff\x00", "\x00\x00\x02\x00", "\x22\x00\x02\x00", "\x06\x01\x02\x00", "\x06\x00\x00", "\x06\x80\x00\x02\x00", "\x06\x00\x01"} {
		if s, e := bloom.Get([]byte(b)); e != api.ErrForm || !bloom.Same(s, bloom.Set{}) {
			t.Errorf("%x %v", b, e)
		}
	}
	for _, s := range []bloom.Set{{Bits: make([]byte, 4096), Each: 16, N: top}, {Bits: []byte{7}, Each: 1}} {
		b, _ := bloom.Put(s)
		got, e := bloom.Get(b)
		if e != api.OK || !bloom.Same(got, s) {
			t.Error(e)
		}
	}
	a := bloom.Set{Bits: []byte{1}, Each: 1, N: 1}
	if bloom.Same(a, bloom.Set{Bits: []byte{2}, Each: 1, N: 1}) || bloom.Same(a, bloom.Set{Bits: []byte{1}, Each: 2, N: 1}) || bloom.Same(a, bloom.Set{Bits: []byte{1}, Each: 1, N: 2}) || !bloom.Same(bloom.Set{}, bloom.Set{Bits: []byte{}}) {
		t.Error("same")
	}
}

// P33.5
func TestNeverForgets(t *testing.T) {
	a, b := fresh(t, 64, 3), fresh(t, 64, 3)
	backward := a
	for n := range 40 {
		before := bloom.Full(a)
		a = bloom.Add(a, strconv.Itoa(n))
		b = bloom.Add(b, strconv.Itoa(-n))
		backward = bloom.Add(backward, strconv.Itoa(39-n))
		s, _ := bloom.Join(a, b)
		for k := range n + 1 {
			if !bloom.Has(a, strconv.Itoa(k)) || !bloom.Has(s, strconv.Itoa(k)) || !bloom.Has(s, strconv.Itoa(-k)) {
				t.Fatal(n, k)
			}
		}
		if bloom.Full(a) < before || bloom.Full(a) > before+3 {
			t.Fatal("bits")
		}
	}
	if !bloom.Same(a, backward) {
		t.Error("the order")
	}
}
