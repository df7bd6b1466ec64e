// Package varnum is layer 1: numbers of few bytes, and of a set width.
package varnum

import "bilander/api"

const (
	more     = 0x80 // the bit of a byte that others stand behind
	longest  = 10   // bytes of a number, at most
	fullSize = 8    // bytes of a set width, at most
)

// Zigzag tells a number without a sign.
func Zigzag(n int64) uint64 { return uint64(n)<<1 ^ uint64(n>>63) }

// Zagzig tells a number with a sign.
func Zagzig(u uint64) int64 { return int64(u>>1) ^ -int64(u&1) }

// Put lays a number.
func Put(n int) []byte {
	u := Zigzag(int64(n))
	var b []byte
	for u >= more {
		b = append(b, byte(u)|more)
		u >>= 7
	}
	return append(b, byte(u))
}

// Get reads a number.
func Get(b []byte) (int, int, api.Errno) {
	u := uint64(0)
	for i := range min(len(b), longest) {
		u |= uint64(b[i]&^more) << (7 * i)
		if b[i] >= more {
			continue
		}
		if i > 0 && b[i] == 0 || i == longest-1 && b[i] > 1 {
			return 0, 0, api.ErrForm
		}
		return int(Zagzig(u)), i + 1, api.OK
	}
	if len(b) < longest {
		return 0, 0, api.ErrCut
	}
	return 0, 0, api.ErrForm
}

func clampWidth(width int) int { return min(max(width, 0), fullSize) }

// Fixed lays a number of a set width.
func Fixed(n uint64, width int) []byte {
	width = clampWidth(width)
	b := make([]byte, width)
	for i := range width {
		b[width-1-i] = byte(n >> (8 * i))
	}
	return b
}

// Unfixed reads a number of a set width.
func Unfixed(b []byte) uint64 {
	n := uint64(0)
	for _, c := range b[max(len(b)-fullSize, 0):] {
		n = n<<8 | uint64(c)
	}
	return n
}

// Text lays a text.
func Text(s string) []byte { return append(Put(len(s)), s...) }

// Reader takes numbers and texts off.
type Reader struct {
	left []byte
	err  api.Errno
}

// New makes a reader.
func New(b []byte) *Reader { return &Reader{left: append([]byte(nil), b...)} }

// Num takes a number off.
func (r *Reader) Num() int {
	if r == nil || r.err != api.OK {
		return 0
	}
	n, size, err := Get(r.left)
	if err != api.OK {
		r.err = err
		return 0
	}
	r.left = r.left[size:]
	return n
}

// take takes bytes off, if there are so many.
func (r *Reader) take(n int) []byte {
	if n > len(r.left) {
		r.err = api.ErrCut
		return nil
	}
	b := r.left[:n:n]
	r.left = r.left[n:]
	return b
}

// Fixed takes a number of a set width off.
func (r *Reader) Fixed(width int) uint64 {
	if r == nil || r.err != api.OK {
		return 0
	}
	return Unfixed(r.take(clampWidth(width)))
}

// Text takes a text off.
func (r *Reader) Text(most int) string {
	n := r.Num()
	if r == nil || r.err != api.OK {
		return ""
	}
	if n < 0 || n > max(most, 0) {
		r.err = api.ErrLong
		return ""
	}
	return string(r.take(n))
}

// Left tells how many bytes are left.
func (r *Reader) Left() int {
	if r == nil {
		return 0
	}
	return len(r.left)
}

// Err tells the first error.
func (r *Reader) Err() api.Errno {
	if r == nil {
		return api.ErrNil
	}
	return r.err
}

// Done tells the first error, or that bytes are left.
func (r *Reader) Done() api.Errno {
	err := r.Err()
	if err == api.OK && r.Left() > 0 {
		return api.ErrForm
	}
	return err
}
