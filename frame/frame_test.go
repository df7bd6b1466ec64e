package frame_test

import (
	"bytes"
	"math"
	"testing"

	"bilander/api"
	"bilander/block"
	"bilander/frame"
)

func sample(n int) []byte {
	b := make([]byte, n)
	for i := range b {
		b[i] = byte(3*i + n)
	}
	return b
}

func lay(n int) [][]byte {
	l, _ := frame.Lay(sample(n))
	return l
}

// P7.1
func TestLay(t *testing.T) {
	l, e := frame.Lay([]byte("123456789"))
	want := "\x00\x00\x00\x09\x99\x5d\xc9\xbb\xdf\x19\x39\xfa123456789"
	if b, n, _ := block.Join(l); string(b) != want || n != 1 || e != api.OK {
		t.Errorf("%x %d", b, n)
	}
	for n, want := range map[int]int{0: 1, 2: 1, 49: 1, 50: 2, 110: 2, 111: 3, 8192: 135} {
		l, e := frame.Lay(sample(n))
		if len(l) != want || frame.Need(n) != want || e != api.OK {
			t.Error(n, len(l), frame.Need(n), e)
		}
	}
	if l, e := frame.Lay(sample(8193)); l != nil || e != api.ErrLong {
		t.Error(e)
	}
	top := (1<<40 + 12 + 60) / 61
	if frame.Need(-1) != 1 || frame.Need(math.MinInt) != 1 || frame.Need(1<<40) != top || frame.Need(math.MaxInt) != top || frame.Need(8193) != 135 {
		t.Error("need")
	}
}

// P7.2
func TestOne(t *testing.T) {
	sum := "\x00\x00\x00\x00\x00\x00\x00\x00"
	for i, c := range []struct {
		l [][]byte
		e api.Errno
	}{
		{nil, api.ErrNone},
		{lay(100)[1:], api.ErrNone},
		{block.Lay([]byte("\x00\x00\x00\x00" + sum[:7])), api.ErrCut},
		{block.Lay([]byte("\x00\x00\x00\x01" + sum)), api.ErrCut},
		{block.Lay([]byte("\x01\x00\x00\x00" + sum)), api.ErrCut},
		{block.Lay([]byte("\x00\x00\x00\x00" + sum + "a")), api.ErrCut},
		{block.Lay([]byte("\x00\x00\x00\x01" + sum + "a")), api.ErrSum},
		{lay(100)[:1], api.ErrCut},
		{block.Lay([]byte("\x00\x00\x00\x00" + sum)), api.OK},
	} {
		if b, n, e := frame.One(c.l); e != c.e || b != nil || n != map[bool]int{true: 1}[e == api.OK] {
			t.Error(i, b, n, e)
		}
	}
	if b, n, e := frame.One(append(lay(100), lay(7)...)); !bytes.Equal(b, sample(100)) || n != 2 || e != api.OK {
		t.Error(n, e)
	}
}

// P7.3
func TestScan(t *testing.T) {
	if l, n := frame.Scan(nil); l != nil || n != 0 {
		t.Error(n)
	}
	l := append(append(append(lay(3), lay(200)...), block.Lay([]byte("no frame"))...), lay(4)...)
	found, n := frame.Scan(l)
	if len(found) != 2 || n != 5 || !frame.Same(found[0], frame.Found{At: 0, Body: sample(3)}) || !frame.Same(found[1], frame.Found{At: 1, Body: sample(200)}) {
		t.Error(found, n)
	}
}

// P7.4
func TestSame(t *testing.T) {
	a := frame.Found{At: 1, Body: []byte("a")}
	if !frame.Same(a, a) || frame.Same(a, frame.Found{At: 2, Body: []byte("a")}) || frame.Same(a, frame.Found{At: 1, Body: []byte("b")}) || !frame.Same(frame.Found{}, frame.Found{Body: []byte{}}) {
		t.Error("same")
	}
}

// P7.5
func TestWholeOnes(t *testing.T) {
	sizes := []int{0, 49, 50, 300, 1, 61, 1000}
	var l [][]byte
	var ends []int
	for _, n := range sizes {
		l = append(l, lay(n)...)
		ends = append(ends, len(l))
	}
	for cut := range len(l) + 1 {
		whole := 0
		for _, end := range ends {
			if end <= cut {
				whole++
			}
		}
		tails := [][][]byte{nil}
		if cut < len(l) {
			for torn := 1; torn < 64; torn += 7 {
				tails = append(tails, [][]byte{append(bytes.Clone(l[cut][:torn]), make([]byte, 64-torn)...)})
			}
		}
		for _, tail := range tails {
			found, n := frame.Scan(append(l[:cut:cut], tail...))
			if len(found) != whole || whole > 0 && n != ends[whole-1] {
				t.Fatal(cut, len(found), whole, n)
			}
			for i, f := range found {
				if !bytes.Equal(f.Body, sample(sizes[i])) || f.At != ends[i]-frame.Need(sizes[i]) {
					t.Fatal(cut, i)
				}
			}
		}
	}
}
