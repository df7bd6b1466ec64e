package check_test

import (
	"bytes"
	"hash/crc64"
	"testing"

	"bilander/api"
	"bilander/check"
)

func sample(n int) []byte {
	b := make([]byte, n)
	for i := range b {
		b[i] = byte(i*i + 7*i)
	}
	return b
}

// P2.1
func TestOf(t *testing.T) {
	if check.Of([]byte("123456789")) != 0x995dc9bbdf1939fa || check.Of(nil) != 0 {
		t.Error("examples")
	}
	other := crc64.MakeTable(crc64.ECMA)
	for n := range 300 {
		if b := sample(n); check.Of(b) != crc64.Checksum(b, other) {
			t.Error(n)
		}
	}
}

// P2.1
func TestMore(t *testing.T) {
	b := sample(40)
	for i := range b {
		if check.More(check.Of(b[:i]), b[i:]) != check.Of(b) {
			t.Error(i)
		}
	}
	if check.More(77, nil) != 77 {
		t.Error("nothing more")
	}
}

// P2.2
func TestSealOpen(t *testing.T) {
	if s := check.Seal([]byte("123456789")); string(s) != "\x99\x5d\xc9\xbb\xdf\x19\x39\xfa123456789" {
		t.Errorf("%x", s)
	}
	if s := check.Seal(nil); string(s) != "\x00\x00\x00\x00\x00\x00\x00\x00" {
		t.Errorf("%x", s)
	}
	for n := range 8 {
		if b, e := check.Open(sample(n)); b != nil || e != api.ErrCut {
			t.Error(n, b, e)
		}
	}
	if b, e := check.Open([]byte("\x00\x00\x00\x00\x00\x00\x00\x01")); b != nil || e != api.ErrSum {
		t.Error(b, e)
	}
}

// P2.3
func TestChanged(t *testing.T) {
	for _, n := range []int{0, 1, 8, 100} {
		s := check.Seal(sample(n))
		if b, e := check.Open(s); !bytes.Equal(b, sample(n)) || e != api.OK {
			t.Error(n, e)
		}
		for i := range s {
			for bit := range 8 {
				c := bytes.Clone(s)
				c[i] ^= 1 << bit
				if b, e := check.Open(c); b != nil || e != api.ErrSum {
					t.Error(n, i, e)
				}
			}
		}
	}
}

// An answer shares nothing with its argument.
func TestNewMemory(t *testing.T) {
	s := check.Seal([]byte("abc"))
	b, _ := check.Open(s)
	s[8] = 'z'
	if string(b) != "abc" {
		t.Error(b)
	}
}
