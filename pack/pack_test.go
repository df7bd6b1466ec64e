package pack_test

import (
	"bytes"
	"math"
	"math/rand/v2"
	"strings"
	"testing"

	"bilander/api"
	"bilander/pack"
)

func noise(n int) []byte {
	r := rand.New(rand.NewPCG(32, 1))
	b := make([]byte, n)
	for i := range b {
		b[i] = byte(r.IntN(256))
	}
	return b
}

// slow tells the longest match as the document says it.
func slow(b []byte, at int) (int, int) {
	for n := 131; n >= 4; n-- {
		for d := 1; d <= 1024; d++ {
			if at-d >= 0 && at >= 0 && at+n <= len(b) && bytes.Equal(b[at:at+n], b[at-d:at-d+n]) {
				return n, d
			}
		}
	}
	return 0, 0
}

// P32.1
func TestMatch(t *testing.T) {
	far := append(append([]byte("abcdefgh"), noise(1016)...), "abcdefgh"...)
	farther := append(append([]byte("abcdefgh"), noise(1017)...), "abcdefgh"...)
	for i, c := range []struct {
		b    []byte
		at   int
		n, d int
	}{
		{nil, 0, 0, 0}, {[]byte("aaaaaa"), 1, 5, 1}, {[]byte("aaaaaa"), 0, 0, 0}, {[]byte("aaaaaa"), 3, 0, 0}, {[]byte("aaaaaa"), 2, 4, 1}, {[]byte("aaaaaa"), -1, 0, 0}, {[]byte("aaaaaa"), 6, 0, 0}, {[]byte("aaaaaa"), math.MaxInt, 0, 0}, {[]byte("aaaaaa"), math.MinInt, 0, 0},
		{[]byte("abcdabcdabcd"), 8, 4, 4}, {[]byte("abcdabcdabcd"), 4, 8, 4}, {[]byte("abcdeXabcdYabcde"), 11, 5, 11}, {bytes.Repeat([]byte("a"), 300), 1, 131, 1}, {bytes.Repeat([]byte("ab"), 300), 300, 131, 2},
		{far, 1024, 8, 1024}, {farther, 1025, 0, 0}, {[]byte("abcXabc"), 4, 0, 0},
	} {
		if n, d := pack.Match(c.b, c.at); n != c.n || d != c.d {
			t.Error(i, n, d)
		}
	}
	r := rand.New(rand.NewPCG(32, 2))
	for range 200 {
		b := make([]byte, r.IntN(200))
		for i := range b {
			b[i] = byte(r.IntN(2))
		}
		at := r.IntN(200)
		n, d := pack.Match(b, at)
		if m, e := slow(b, at); at < len(b) && (n != m || d != e) {
			t.Fatal(b, at, n, d)
		}
	}
}

// P32.2
func TestPack(t *testing.T) {
	long := noise(300)
	for want, b := range map[string]string{
		"":                              "",
		"\x00a\x81\x00\x01":             "aaaaaa",
		"\x01ab":                        "ab",
		"\x03abcd\x84\x00\x04":          "abcdabcdabcd",
		"\x03abcd\x80\x00\x04\x00x":     "abcdabcdx",
		"\x00a\xff\x00\x01":             strings.Repeat("a", 132),
		"\x00a\xff\x00\x01\x80\x00\x01": strings.Repeat("a", 136),
		"\x00a\xff\x00\x01\x02aaa":      strings.Repeat("a", 135),
		"\x7f" + string(long[:128]) + "\x7f" + string(long[128:256]) + "\x2b" + string(long[256:]): string(long),
		"\x7f" + string(long[:128]):                  string(long[:128]),
		"\x7f" + string(long[:128]) + "\x80\x00\x80": string(long[:128]) + string(long[:4]),
	} {
		if p := pack.Pack([]byte(b)); string(p) != want {
			t.Errorf("%q: %x", b, p)
		}
	}
}

// P32.3
func TestUnpack(t *testing.T) {
	for i, c := range []struct {
		p    string
		most int
		want string
		e    api.Errno
	}{
		{"", -1, "", api.OK}, {"\x00a", 1, "a", api.OK}, {"\x00a\x81\x00\x01", 6, "aaaaaa", api.OK}, {"\x00a\x81\x00\x01", 5, "", api.ErrLong}, {"\x00a", 0, "", api.ErrLong}, {"\x00a", -1, "", api.ErrLong}, {"\x00a", math.MinInt, "", api.ErrLong},
		{"\x00", 9, "", api.ErrCut}, {"\x7fabc", 0, "", api.ErrCut}, {"\x00a\x81", 0, "", api.ErrLong}, {"\x00a\x81", 1, "", api.ErrCut}, {"\x00a\x81\x00", 1, "", api.ErrCut}, {"\x81\x00\x01", 0, "", api.ErrForm}, {"\x00a\x81\x00\x00", 1, "", api.ErrForm},
		{"\x00a\x81\x00\x02", 1, "", api.ErrForm}, {"\x00a\x81\x01\x00", 99, "", api.ErrForm}, {"\x01ab\x80\x00\x02\x00c", 99, "abababc", api.OK}, {"\x00a\x80\x00\x01\x05", 5, "", api.ErrCut}, {"\x01ab\x80\x00\x01", math.MaxInt, "abbbbb", api.OK},
	} {
		b, e := pack.Unpack([]byte(c.p), c.most)
		if string(b) != c.want || e != c.e || e != api.OK && b != nil {
			t.Error(i, b, e)
		}
	}
}

// P32.4
func TestSealAndOpen(t *testing.T) {
	for want, b := range map[string]string{"\x00": "", "\x00ab": "ab", "\x01\x00a\x81\x00\x01": "aaaaaa", "\x00aaaaa": "aaaaa"} {
		if p := pack.Seal([]byte(b)); string(p) != want {
			t.Errorf("%q: %x", b, p)
		}
	}
	for i, c := range []struct {
		p    string
		want string
		e    api.Errno
	}{{"", "", api.ErrCut}, {"\x02", "", api.ErrForm}, {"\xff", "", api.ErrForm}, {"\x00", "", api.OK}, {"\x01", "", api.OK}, {"\x00\x01", "\x01", api.OK}, {"\x01\x00", "", api.ErrCut}, {"\x01\x80\x00\x01", "", api.ErrForm}} {
		if b, e := pack.Open([]byte(c.p)); string(b) != c.want || e != c.e {
			t.Error(i, b, e)
		}
	}
	if b, e := pack.Open(pack.Seal(make([]byte, 65536))); len(b) != 65536 || e != api.OK {
		t.Error(e)
	}
	if b, e := pack.Open(pack.Seal(make([]byte, 65537))); b != nil || e != api.ErrLong {
		t.Error(e)
	}
	if b, e := pack.Open(append([]byte{0}, make([]byte, 70000)...)); len(b) != 70000 || e != api.OK {
		t.Error(e)
	}
	p := []byte("\x00ab")
	b, _ := pack.Open(p)
	p[1] = 'z'
	if string(b) != "ab" {
		t.Error("shared")
	}
}

// P32.5
func TestAsItWas(t *testing.T) {
	r := rand.New(rand.NewPCG(32, 3))
	for range 400 {
		b := make([]byte, r.IntN(1500))
		letters := 1 + r.IntN(255)
		for i := range b {
			b[i] = byte(r.IntN(letters))
			if i > 40 && r.IntN(3) > 0 {
				b[i] = b[i-1-r.IntN(40)/20*20]
			}
		}
		if got, e := pack.Unpack(pack.Pack(b), len(b)); !bytes.Equal(got, b) || e != api.OK {
			t.Fatal(b, e)
		}
		s := pack.Seal(b)
		if got, e := pack.Open(s); !bytes.Equal(got, b) || e != api.OK || len(s) > len(b)+1 {
			t.Fatal(b, e)
		}
	}
}
