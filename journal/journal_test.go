package journal_test

import (
	"math/rand/v2"
	"testing"

	"bilander/api"
	"bilander/frame"
	"bilander/journal"
	"bilander/meta"
	"bilander/state"
	"bilander/zone"
)

func fresh(t *testing.T, blocks int) (*zone.Dev, *journal.Journal) {
	t.Helper()
	d, _ := zone.New(8, blocks)
	j, e := journal.Format(d)
	if e != api.OK {
		t.Fatal(e)
	}
	return d, j
}

func makes(id int) api.Meta {
	return api.Meta{Kind: api.Makes, Topic: id, Name: string(rune('a' + id)), Parts: 1}
}

func begins(base int) api.Meta { return api.Meta{Kind: api.Begins, Base: base} }

func write(d *zone.Dev, z int, bodies ...[]byte) {
	for _, b := range bodies {
		l, _ := frame.Lay(b)
		for _, x := range l {
			d.Append(z, x)
		}
	}
}

func all(gen int, l ...api.Meta) []byte {
	b, _ := meta.PutAll(gen, l)
	return b
}

func one(m api.Meta) []byte {
	b, _ := meta.Put(m)
	return b
}

// P10.1
func TestFormat(t *testing.T) {
	if j, e := journal.Format(nil); j != nil || e != api.ErrNil {
		t.Error(e)
	}
	if j, e := journal.Open(nil); j != nil || e != api.ErrNil {
		t.Error(e)
	}
	d, j := fresh(t, 4)
	if d.Written(0) != 1 || d.Written(1) != 0 || d.Loose(0) != 0 || d.Ops() != 4 || j.Gen() != 1 || j.Zone() != 0 || j.Sealed() || j.Bad() {
		t.Error(d.Written(0), d.Ops())
	}
	if j.Add(makes(0)) != api.OK || d.Written(0) != 2 || d.Loose(0) != 0 || d.Ops() != 6 {
		t.Error("add")
	}
	for after := range 4 {
		d, _ := zone.New(8, 4)
		d.Fail(after, true)
		if j, e := journal.Format(d); j != nil || e != api.ErrDown {
			t.Error(after, e)
		}
	}
	write(d, 1, []byte("old"))
	if _, e := journal.Format(d); e != api.OK || d.Written(1) != 0 || d.Written(0) != 1 {
		t.Error("again", e)
	}
}

// P10.1
func TestOpenChooses(t *testing.T) {
	for i, c := range []struct {
		zero, one [][]byte
		gen, zone int
		e         api.Errno
	}{
		{nil, nil, 0, 0, api.ErrForm},
		{[][]byte{one(makes(0))}, [][]byte{{}}, 0, 0, api.ErrForm},
		{[][]byte{all(3)}, [][]byte{all(3)}, 3, 0, api.OK},
		{[][]byte{all(3)}, [][]byte{all(4)}, 4, 1, api.OK},
		{[][]byte{all(5)}, [][]byte{all(4)}, 5, 0, api.OK},
		{[][]byte{{9}}, [][]byte{all(4)}, 4, 1, api.OK},
		{[][]byte{all(0)}, nil, 0, 0, api.OK},
		{[][]byte{all(3, makes(1))}, [][]byte{all(2)}, 0, 0, api.ErrForm},
		{[][]byte{all(3), one(begins(1))}, [][]byte{all(2)}, 0, 0, api.ErrForm},
		{[][]byte{all(3), {77}}, nil, 0, 0, api.ErrForm},
		{[][]byte{all(3, makes(0)), one(begins(1)), one(begins(2))}, nil, 3, 0, api.OK},
	} {
		d, _ := zone.New(4, 8)
		write(d, 0, c.zero...)
		write(d, 1, c.one...)
		j, e := journal.Open(d)
		if e != c.e || (j == nil) != (e != api.OK) || j.Gen() != c.gen || j.Zone() != c.zone || j.Sealed() {
			t.Error(i, e, j.Gen(), j.Zone())
		}
	}
	d, _ := fresh(t, 4)
	d.Fail(0, true)
	d.Flush()
	if j, e := journal.Open(d); j != nil || e != api.ErrDown {
		t.Error(e)
	}
}

// P10.1, P10.2
func TestSealed(t *testing.T) {
	d, j := fresh(t, 8)
	j.Add(makes(0))
	d.Append(0, make([]byte, 64))
	j, e := journal.Open(d)
	if e != api.OK || !j.Sealed() || len(j.State().Topics) != 1 {
		t.Error(e, j.Sealed())
	}
	before := j.State()
	if j.Add(makes(0)) != api.ErrState || !j.Sealed() || !state.Same(before, j.State()) {
		t.Error("a step's error")
	}
	if j.Add(makes(1)) != api.OK || j.Sealed() || j.Zone() != 1 || j.Gen() != 2 || len(j.State().Topics) != 2 {
		t.Error("the other zone", j.Zone(), j.Gen())
	}
}

// P10.2
func TestTurns(t *testing.T) {
	d, j := fresh(t, 4)
	j.Add(makes(0))
	for i := range 40 {
		if e := j.Add(begins(i)); e != api.OK {
			t.Fatal(i, e)
		}
		again, e := journal.Open(d)
		if e != api.OK || !state.Same(again.State(), j.State()) || again.Gen() != j.Gen() || again.Zone() != j.Zone() || j.Zone() != 1-j.Gen()%2 {
			t.Fatal(i, e, j.Gen(), j.Zone())
		}
	}
	if j.Gen() != 1+(41+3)/4-1 {
		t.Error(j.Gen())
	}
}

// P10.2
func TestFull(t *testing.T) {
	d, j := fresh(t, 4)
	for id := range 16 { // 4 blocks hold no image of so many topics with long names
		m := makes(id)
		m.Name += "-with-quite-a-long-name"
		before := j.State()
		if e := j.Add(m); e == api.ErrFull {
			if !state.Same(before, j.State()) || j.Bad() {
				t.Error("changed")
			}
			if again, e := journal.Open(d); e != api.OK || !state.Same(before, again.State()) {
				t.Error("changed on the device", e)
			}
			return
		} else if e != api.OK {
			t.Fatal(e)
		}
	}
	t.Error("never full")
}

// P10.2: a turn that has just room, and one whose generation may not be.
func TestTurnEdges(t *testing.T) {
	var l []api.Meta
	for i := range 5 {
		m := makes(i)
		m.Name += "-and-twenty-nine-bytes-of-text"
		l = append(l, m)
	}
	d, _ := zone.New(8, 4)
	write(d, 0, all(1, l...))
	j, e := journal.Open(d)
	if e != api.OK || d.State(0) != zone.Full || j.Add(begins(1)) != api.OK || d.State(1) != zone.Full || j.Gen() != 2 {
		t.Error(e, d.Written(0), d.Written(1))
	}
	d, _ = zone.New(8, 4)
	write(d, 0, all(api.MaxTime, makes(0)))
	j, _ = journal.Open(d)
	for i := range 3 {
		if j.Add(begins(i)) != api.OK {
			t.Error(i)
		}
	}
	if j.Add(begins(3)) != api.ErrFull || j.Bad() || d.Written(1) != 0 {
		t.Error("the last generation")
	}
}

// P10.2
func TestBad(t *testing.T) {
	d, j := fresh(t, 4)
	d.Fail(0, true)
	if j.Add(makes(0)) != api.ErrDown || !j.Bad() || j.Add(makes(0)) != api.ErrState || len(j.State().Topics) != 0 {
		t.Error("bad")
	}
	d.Crash(nil)
	if j.Add(makes(0)) != api.ErrState {
		t.Error("still bad")
	}
	_, j = fresh(t, 4)
	if j.Add(begins(0)) != api.ErrNone || j.Bad() {
		t.Error("a step's error")
	}
}

// P10.3
func TestForkAndNil(t *testing.T) {
	d, j := fresh(t, 8)
	j.Add(makes(0))
	e := d.Fork()
	f := j.Fork(e)
	if f.Add(makes(1)) != api.OK || len(j.State().Topics) != 1 || len(f.State().Topics) != 2 || d.Written(0) != 2 || e.Written(0) != 3 {
		t.Error("one of its own")
	}
	s := j.State()
	s.Topics[0].Name = "z"
	if j.State().Topics[0].Name != "a" {
		t.Error("shared")
	}
	var none *journal.Journal
	if none.Add(makes(0)) != api.ErrNil || !state.Same(none.State(), api.State{}) || none.Gen() != 0 || none.Zone() != 0 || none.Sealed() || none.Bad() || none.Fork(d) != nil || j.Fork(nil) != nil {
		t.Error("nil")
	}
}

// P10.4
func TestWhereverThePowerFails(t *testing.T) {
	r := rand.New(rand.NewPCG(10, 10))
	for after := range 60 {
		for range 20 {
			d, j := fresh(t, 4)
			d.Fail(after, r.IntN(2) == 0)
			before, tried := j.State(), j.State()
			for i := 0; !j.Bad(); i++ {
				m := begins(i)
				if i == 0 {
					m = makes(0)
				}
				before = j.State()
				tried, _ = state.Step(before, m)
				if e := j.Add(m); e != api.OK && e != api.ErrDown {
					t.Fatal(e)
				}
			}
			d.Crash([]byte{byte(r.IntN(256)), byte(r.IntN(256)), byte(r.IntN(256)), byte(r.IntN(256))})
			again, e := journal.Open(d)
			if e != api.OK || !state.Same(again.State(), before) && !state.Same(again.State(), tried) {
				t.Fatal(after, e, again.State(), before)
			}
			got := again.State()
			m := makes(got.Next)
			if again.Add(m) != api.OK {
				t.Fatal(after, "no more")
			}
			if last, e := journal.Open(d); e != api.OK || !state.Same(last.State(), again.State()) || last.Sealed() {
				t.Fatal(after, e)
			}
		}
	}
}
