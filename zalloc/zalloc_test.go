package zalloc_test

import (
	"bytes"
	"slices"
	"testing"

	"bilander/api"
	"bilander/zalloc"
	"bilander/zone"
)

func owning(zones ...int) api.State {
	s := api.State{Next: 1, Topics: []api.Topic{{Name: "a", Parts: 1}}, Chains: []api.Chain{{}}}
	for _, z := range zones {
		s.Chains[0].Links = append(s.Chains[0].Links, api.Link{Zone: z})
	}
	return s
}

func put(d *zone.Dev, zones ...int) {
	for _, z := range zones {
		d.Append(z, make([]byte, 64))
	}
}

// P11.1
func TestKinds(t *testing.T) {
	d, _ := zone.New(6, 4)
	put(d, 4)
	if l := zalloc.Kinds(d, owning(3)); !bytes.Equal(l, []byte{zalloc.Said, zalloc.Said, zalloc.Free, zalloc.Owned, zalloc.Pending, zalloc.Free}) {
		t.Error(l)
	}
	if zalloc.Free != 0 || zalloc.Said != 1 || zalloc.Owned != 2 || zalloc.Pending != 3 {
		t.Error("numbers")
	}
	d.Finish(5)
	put(d, 0, 3)
	if l := zalloc.Kinds(d, owning(3, 50, 1)); !bytes.Equal(l, []byte{zalloc.Said, zalloc.Said, zalloc.Free, zalloc.Owned, zalloc.Pending, zalloc.Pending}) {
		t.Error(l)
	}
	if len(zalloc.Kinds(nil, owning(3))) != 0 {
		t.Error("nil")
	}
}

// P11.2
func TestNext(t *testing.T) {
	if z, e := zalloc.Next(nil, owning()); z != 0 || e != api.ErrNil {
		t.Error(e)
	}
	d, _ := zone.New(6, 4)
	put(d, 4)
	if z, e := zalloc.Next(d, owning(3)); z != 2 || e != api.OK {
		t.Error(z, e)
	}
	if z, e := zalloc.Next(d, owning(2, 3)); z != 5 || e != api.OK {
		t.Error(z, e)
	}
	if z, e := zalloc.Next(d, owning(2, 3, 5)); z != 0 || e != api.ErrFull {
		t.Error(z, e)
	}
	d, _ = zone.New(20, 4)
	put(d, 2, 3, 4, 5, 6, 7, 8, 9, 10, 11, 12, 13)
	if z, e := zalloc.Next(d, owning()); z != 0 || e != api.ErrOpen {
		t.Error(z, e)
	}
	d.Finish(2)
	if z, e := zalloc.Next(d, owning()); z != 14 || e != api.OK {
		t.Error(z, e)
	}
}

// P11.3
func TestSweep(t *testing.T) {
	d, _ := zone.New(6, 4)
	put(d, 3, 4, 5)
	if l := zalloc.Waiting(d, owning(4)); !slices.Equal(l, []int{3, 5}) || len(zalloc.Waiting(nil, owning())) != 0 {
		t.Error(l)
	}
	for _, want := range []int{3, 5} {
		if z, e := zalloc.Sweep(d, owning(4)); z != want || e != api.OK || d.State(z) != zone.Empty {
			t.Error(z, e)
		}
	}
	if z, e := zalloc.Sweep(d, owning(4)); z != 0 || e != api.ErrNone || d.Written(4) != 1 {
		t.Error(z, e)
	}
	d.Fail(0, false)
	if z, e := zalloc.Sweep(d, owning()); z != 0 || e != api.ErrDown {
		t.Error(z, e)
	}
	if z, e := zalloc.Sweep(nil, owning()); z != 0 || e != api.ErrNil {
		t.Error(e)
	}
}

// P11.4
func TestRoom(t *testing.T) {
	d, _ := zone.New(20, 4)
	put(d, 0, 1)
	for z := 2; z < 14; z++ {
		if n := zalloc.Room(d); n != 14-z {
			t.Error(z, n)
		}
		put(d, z)
	}
	if zalloc.Room(d) != 0 || zalloc.Room(nil) != 0 {
		t.Error("none")
	}
	put(d, 2, 2, 2) // full
	if zalloc.Room(d) != 1 {
		t.Error(zalloc.Room(d))
	}
	e, _ := zone.New(20, 4) // more zones open than may be, behind a crash
	for z := 2; z < 20; z++ {
		put(e, z, z, z, z)
	}
	fate := make([]byte, 36)
	for i := range 18 {
		fate[2*i] = 3
	}
	e.Crash(fate)
	if e.Opened() != 18 || zalloc.Room(e) != 0 {
		t.Error(e.Opened(), zalloc.Room(e))
	}
}

// P11.5
func TestNoneIsPending(t *testing.T) {
	d, _ := zone.New(64, 4)
	for z := 1; z < 64; z += 3 {
		put(d, z)
		d.Finish(z)
	}
	s := owning(4, 6, 61)
	for range d.Zones() {
		count := [4]int{}
		for _, k := range zalloc.Kinds(d, s) {
			count[k]++
		}
		if count[0]+count[1]+count[2]+count[3] != 64 || count[1] != 2 || count[2] != 3 {
			t.Error(count)
		}
		zalloc.Sweep(d, s)
	}
	if len(zalloc.Waiting(d, s)) != 0 || d.Written(4) != 1 || d.Written(1) != 1 {
		t.Error("waiting")
	}
}
