package zone_test

import (
	"bytes"
	"math/rand/v2"
	"testing"

	"bilander/api"
	"bilander/zone"
)

func fill(c byte) []byte { return bytes.Repeat([]byte{c}, 64) }

func device(t *testing.T, zones, blocks int) *zone.Dev {
	t.Helper()
	d, e := zone.New(zones, blocks)
	if e != api.OK {
		t.Fatal(e)
	}
	return d
}

func put(t *testing.T, d *zone.Dev, z int, c byte) {
	t.Helper()
	at := d.Written(z)
	if i, e := d.Append(z, fill(c)); i != at || e != api.OK {
		t.Fatal(z, c, i, e)
	}
}

// P6.1
func TestNew(t *testing.T) {
	for _, c := range [][3]int{{3, 4, 1}, {4, 3, 1}, {65, 4, 1}, {4, 257, 1}, {-1, -1, 1}, {4, 4, 0}, {64, 256, 0}} {
		d, e := zone.New(c[0], c[1])
		if (e == api.ErrArg) != (c[2] == 1) || (d == nil) != (c[2] == 1) {
			t.Error(c, e)
		}
		for z := range d.Zones() {
			if d.State(z) != zone.Empty || d.Written(z) != 0 {
				t.Error(c, z)
			}
		}
		if d != nil && (d.Zones() != c[0] || d.Blocks() != c[1] || d.Ops() != 0 || d.Opened() != 0) {
			t.Error(c)
		}
	}
}

// P6.2
func TestAppendAndRead(t *testing.T) {
	d := device(t, 20, 4)
	for i := range 4 {
		put(t, d, 2, byte(i))
		if want := []uint8{zone.Open, zone.Open, zone.Open, zone.Full}[i]; d.State(2) != want || d.Loose(2) != i+1 {
			t.Error(i, d.State(2))
		}
	}
	if i, e := d.Append(2, fill(1)); i != 0 || e != api.ErrZone {
		t.Error(i, e)
	}
	if i, e := d.Append(2, fill(1)[:63]); i != 0 || e != api.ErrArg {
		t.Error(i, e)
	}
	for _, z := range []int{-1, 20, 1 << 40} {
		i, e := d.Append(z, nil)
		_, f := d.Read(z, 0)
		if i != 0 || e != api.ErrRange || f != api.ErrRange || d.Reset(z) != api.ErrRange || d.Finish(z) != api.ErrRange {
			t.Error(z, e, f)
		}
	}
	for _, i := range []int{-1, 4, 1 << 40} {
		if b, e := d.Read(2, i); b != nil || e != api.ErrRange {
			t.Error(i, e)
		}
	}
	b, e := d.Read(2, 3)
	if !bytes.Equal(b, fill(3)) || e != api.OK {
		t.Error(b, e)
	}
	b[0] = 9
	if b, _ := d.Read(2, 3); b[0] != 3 {
		t.Error("shared")
	}
	if d.Flush() != api.OK || d.Loose(2) != 0 || d.Written(2) != 4 {
		t.Error("flush")
	}
	if d.Reset(2) != api.OK || d.State(2) != zone.Empty || d.Written(2) != 0 {
		t.Error("reset")
	}
	if _, e := d.Read(2, 0); e != api.ErrRange {
		t.Error(e)
	}
}

// P6.2
func TestOpenZones(t *testing.T) {
	d := device(t, 20, 4)
	for z := range 14 {
		put(t, d, z, 1)
	}
	if i, e := d.Append(14, fill(1)); i != 0 || e != api.ErrOpen || d.Opened() != 14 {
		t.Error(e)
	}
	put(t, d, 13, 1)
	if d.Finish(0) != api.OK || d.State(0) != zone.Full || d.Opened() != 13 {
		t.Error("finish")
	}
	if _, e := d.Append(0, fill(1)); e != api.ErrZone {
		t.Error(e)
	}
	put(t, d, 14, 1)
	if d.Finish(19) != api.OK || d.State(19) != zone.Full || d.Written(19) != 0 || d.Reset(19) != api.OK || d.State(19) != zone.Empty {
		t.Error("a finished zone without blocks")
	}
}

// P6.3
func TestFail(t *testing.T) {
	for _, done := range []bool{false, true} {
		d := device(t, 4, 4)
		if d.Fail(-1, done) != api.ErrArg || d.Fail(9, done) != api.OK || d.Fail(2, done) != api.OK {
			t.Error("fail")
		}
		put(t, d, 2, 1)
		d.Append(2, nil)
		d.Append(9, fill(1))
		put(t, d, 2, 2)
		if i, e := d.Append(2, fill(3)); i != 0 || e != api.ErrDown || !d.Down() || d.Ops() != 3 {
			t.Error(i, e, d.Ops())
		}
		if want := map[bool]int{false: 2, true: 3}[done]; d.Written(2) != want {
			t.Error(done, d.Written(2))
		}
		_, e := d.Append(9, nil)
		_, f := d.Read(2, 0)
		if e != api.ErrDown || f != api.ErrDown || d.Flush() != api.ErrDown || d.Reset(9) != api.ErrDown || d.Finish(9) != api.ErrDown || d.Fail(-1, true) != api.ErrDown || d.Ops() != 3 {
			t.Error("down", e, f)
		}
	}
}

// P6.3
func TestFailOfOthers(t *testing.T) {
	for i, ask := range []func(*zone.Dev) api.Errno{(*zone.Dev).Flush, func(d *zone.Dev) api.Errno { return d.Reset(2) }, func(d *zone.Dev) api.Errno { return d.Finish(2) }} {
		for _, done := range []bool{false, true} {
			d := device(t, 4, 4)
			put(t, d, 2, 1)
			d.Fail(0, done)
			if ask(d) != api.ErrDown || !d.Down() || d.Ops() != 2 {
				t.Error(i, done)
			}
			happened := []bool{d.Loose(2) == 0, d.Written(2) == 0, d.State(2) == zone.Full}[i]
			if happened != done {
				t.Error(i, done)
			}
			d.Crash([]byte{1})
			if d.Down() || d.Flush() != api.OK || d.Reset(2) != api.OK || d.Ops() != 4 {
				t.Error("back")
			}
		}
	}
}

// P6.4
func TestCrash(t *testing.T) {
	torn := append(fill(3)[:5:5], make([]byte, 59)...)
	for i, c := range []struct {
		fate []byte
		want [][]byte
	}{
		{nil, nil},
		{[]byte{0, 5}, [][]byte{torn}},
		{[]byte{0, 64 + 5}, [][]byte{torn}},
		{[]byte{0, 64}, nil},
		{[]byte{1}, [][]byte{fill(3)}},
		{[]byte{4, 5}, [][]byte{fill(3), append(fill(4)[:5:5], make([]byte, 59)...)}},
		{[]byte{2, 9}, [][]byte{fill(3), fill(4)}},
	} {
		d := device(t, 4, 8)
		put(t, d, 2, 1)
		put(t, d, 2, 2)
		d.Flush()
		put(t, d, 2, 3)
		put(t, d, 2, 4)
		d.Crash(c.fate)
		want := append([][]byte{fill(1), fill(2)}, c.want...)
		if d.Written(2) != len(want) || d.Loose(2) != 0 || d.Down() {
			t.Error(i, d.Written(2))
		}
		for k, b := range want {
			if got, e := d.Read(2, k); !bytes.Equal(got, b) || e != api.OK {
				t.Errorf("%d %d %x", i, k, got)
			}
		}
	}
}

// P6.4
func TestCrashOfSeveral(t *testing.T) {
	d := device(t, 6, 4)
	put(t, d, 1, 1)
	put(t, d, 3, 3)
	put(t, d, 3, 3)
	put(t, d, 4, 4)
	d.Finish(4)
	d.Fail(0, true)
	put3 := func() api.Errno { _, e := d.Append(3, fill(9)); return e }
	if put3() != api.ErrDown {
		t.Error("fail")
	}
	d.Crash([]byte{1, 2, 7, 0})
	for z, want := range []int{0, 1, 0, 3, 0, 0} {
		if d.Written(z) != want {
			t.Error(z, d.Written(z))
		}
	}
	if b, _ := d.Read(3, 2); b[6] != 9 || b[7] != 0 {
		t.Error(b)
	}
	if d.State(4) != zone.Full || put3() != api.OK || d.State(3) != zone.Full {
		t.Error("behind the crash")
	}
}

// P6.5
func TestForkAndNil(t *testing.T) {
	d := device(t, 4, 4)
	put(t, d, 2, 1)
	d.Fail(1, true)
	f := d.Fork()
	put(t, f, 2, 2)
	if d.Written(2) != 1 || f.Written(2) != 2 || f.Loose(2) != 2 || f.Ops() != 2 || d.Ops() != 1 {
		t.Error("one of its own")
	}
	if f.Flush() != api.ErrDown || d.Down() || d.Reset(2) != api.OK {
		t.Error("its failure")
	}
	if b, e := f.Fork().Read(2, 0); b != nil || e != api.ErrDown {
		t.Error("down", e)
	}
	var none *zone.Dev
	_, e := none.Append(0, fill(1))
	_, g := none.Read(0, 0)
	for _, e := range []api.Errno{e, g, none.Flush(), none.Reset(0), none.Finish(0), none.Fail(-1, true)} {
		if e != api.ErrNil {
			t.Error(e)
		}
	}
	none.Crash([]byte{1})
	if none.Down() || none.State(0) != 0 || none.Written(0) != 0 || none.Loose(0) != 0 || none.Opened() != 0 || none.Zones() != 0 || none.Blocks() != 0 || none.Ops() != 0 || none.Fork() != nil {
		t.Error("nil")
	}
	if d.State(-1) != 0 || d.Written(4) != 0 || d.Loose(1<<40) != 0 {
		t.Error("no such zone")
	}
}

// P6.6
func TestFlushedStays(t *testing.T) {
	r := rand.New(rand.NewPCG(6, 6))
	d := device(t, 8, 6)
	var written, safe [8][]byte
	for step := range 4000 {
		z := r.IntN(8)
		switch r.IntN(12) {
		case 0:
			d.Flush()
			safe = written
		case 1:
			d.Reset(z)
			written[z], safe[z] = nil, nil
		case 2:
			d.Crash([]byte{byte(r.IntN(256)), byte(r.IntN(256)), byte(r.IntN(256))})
			for z := range 8 {
				n := d.Written(z)
				if n < len(safe[z]) || n > len(written[z]) {
					t.Fatal(step, z, n)
				}
				if n > len(safe[z]) { // the last one may be torn
					b, _ := d.Read(z, n-1)
					if b[0] != written[z][n-1] {
						t.Fatal(step, z, "a gap")
					}
				}
				written[z] = written[z][:n:n]
			}
			safe = written
		default:
			c := byte(1 + r.IntN(255))
			if _, e := d.Append(z, fill(c)); e == api.OK {
				written[z] = append(written[z][:len(written[z]):len(written[z])], c)
			}
		}
		for z := range 8 {
			if d.Written(z) != len(written[z]) {
				t.Fatal(step, z)
			}
			for i, c := range safe[z] {
				if b, e := d.Read(z, i); b[0] != c || e != api.OK {
					t.Fatal(step, z, i, e)
				}
			}
		}
	}
}
