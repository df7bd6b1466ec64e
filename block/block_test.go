package block_test

import (
	"bytes"
	"math"
	"testing"

	"bilander/api"
	"bilander/block"
)

func sample(n int) []byte {
	b := make([]byte, n)
	for i := range b {
		b[i] = byte(i + 1)
	}
	return b
}

// P5.1
func TestSeal(t *testing.T) {
	want := append([]byte("\x01\x02ab"), make([]byte, 60)...)
	want[63] = 0x5a
	if b, e := block.Seal(block.First, []byte("ab")); !bytes.Equal(b, want) || e != api.OK {
		t.Errorf("%x %v", b, e)
	}
	for _, kind := range []byte{0, 3, 255} {
		if b, e := block.Seal(kind, sample(62)); b != nil || e != api.ErrKind {
			t.Error(kind, e)
		}
	}
	if b, e := block.Seal(block.More, sample(62)); b != nil || e != api.ErrLong {
		t.Error(e)
	}
}

// P5.1
func TestOpen(t *testing.T) {
	for n := range 62 {
		b, _ := block.Seal(block.More, sample(n))
		kind, body, e := block.Open(b)
		if kind != block.More || !bytes.Equal(body, sample(n)) || e != api.OK {
			t.Error(n, kind, body, e)
		}
		body = append(body, 9)
		if n < 61 && b[2+n] != 0 {
			t.Error("shared")
		}
	}
	good, _ := block.Seal(block.First, []byte("ab"))
	for _, c := range []struct {
		at int
		to byte
		e  api.Errno
	}{{0, 0, api.ErrForm}, {0, 3, api.ErrForm}, {1, 62, api.ErrForm}, {1, 255, api.ErrForm}, {1, 1, api.ErrForm}, {4, 1, api.ErrForm}, {62, 1, api.ErrForm}, {63, 0, api.ErrCut}, {63, 0x5b, api.ErrCut}, {1, 61, api.OK}, {2, 0, api.OK}} {
		b := bytes.Clone(good)
		b[c.at] = c.to
		if kind, body, e := block.Open(b); e != c.e || e != api.OK && (kind != 0 || body != nil) {
			t.Error(c, e)
		}
	}
	for _, b := range [][]byte{nil, good[:63], append(bytes.Clone(good), 0x5a)} {
		if _, _, e := block.Open(b); e != api.ErrCut {
			t.Error(len(b), e)
		}
	}
}

// P5.2
func TestLay(t *testing.T) {
	for n := range 300 {
		b := sample(n)
		l := block.Lay(b)
		if len(l) != block.Need(n) {
			t.Error(n, len(l))
		}
		for i, one := range l {
			kind, body, e := block.Open(one)
			if e != api.OK || (kind == block.First) != (i == 0) || !bytes.Equal(body, b[61*i:min(61*i+61, n)]) {
				t.Error(n, i, e)
			}
		}
	}
	for n, want := range map[int]int{math.MinInt: 1, -1: 1, 0: 1, 1: 1, 61: 1, 62: 2, 122: 2, 123: 3, math.MaxInt: math.MaxInt/61 + 1} {
		if block.Need(n) != want {
			t.Error(n, block.Need(n))
		}
	}
}

// P5.3
func TestJoin(t *testing.T) {
	two := block.Lay(sample(100))
	more := two[1:]
	for i, l := range [][][]byte{nil, more, {sample(64), two[0]}, {nil}} {
		if b, n, e := block.Join(l); b != nil || n != 0 || e != api.ErrNone {
			t.Error(i, n, e)
		}
	}
	torn := append(bytes.Clone(two[1][:20]), make([]byte, 44)...)
	for i, l := range [][][]byte{{two[0]}, {two[0], two[0]}, {two[0], torn, two[1]}, {two[0], nil, two[1]}} {
		if b, n, e := block.Join(l); !bytes.Equal(b, sample(61)) || n != 1 || e != api.OK {
			t.Error(i, n, e)
		}
	}
	if b, n, _ := block.Join([][]byte{two[0], two[1], two[1]}); len(b) != 139 || n != 3 {
		t.Error(n)
	}
}

// P5.4
func TestTornAndWhole(t *testing.T) {
	b, _ := block.Seal(block.First, sample(61))
	for n := range 64 {
		if _, _, e := block.Open(append(bytes.Clone(b[:n]), make([]byte, 64-n)...)); e != api.ErrCut {
			t.Error(n, e)
		}
	}
	for n := range 300 {
		for _, tail := range [][][]byte{nil, block.Lay(sample(5)), {make([]byte, 64)}} {
			got, k, e := block.Join(append(block.Lay(sample(n)), tail...))
			if !bytes.Equal(got, sample(n)) || k != block.Need(n) || e != api.OK {
				t.Error(n, k, e)
			}
		}
	}
}
