package script_test

import (
	"bytes"
	"math"
	"slices"
	"strings"
	"testing"

	"bilander/api"
	"bilander/script"
	"bilander/wire"
	"bilander/world"
)

func steps() []world.Step {
	return []world.Step{
		{Kind: world.Asks, Q: api.Request{Kind: api.Create, Topic: "t", Parts: 1}},
		{Kind: world.Asks, Q: api.Request{Kind: api.Produce, Topic: "t", Flush: true, Batch: api.Batch{Count: 2, Records: []api.Record{{Value: "v"}}}}},
		{Kind: world.Ticks, N: 5}, {Kind: world.Ticks, N: math.MinInt}, {Kind: world.Works, N: -3}, {Kind: world.Fails, N: 3, Done: true}, {Kind: world.Fails},
		{Kind: world.Crashes, Fate: bytes.Repeat([]byte{7}, 64)}, {Kind: world.Crashes}, {Kind: world.Opens},
	}
}

// P27.1
func TestPutStep(t *testing.T) {
	for want, s := range map[string]world.Step{
		"\x03\x06\x01": {Kind: world.Fails, N: 3, Done: true}, "\x03\x06\x00": {Kind: world.Fails, N: 3}, "\x01\x0a": {Kind: world.Ticks, N: 5}, "\x02\x01": {Kind: world.Works, N: -1},
		"\x04\x00\xff": {Kind: world.Crashes, Fate: []byte{0, 255}}, "\x05": {Kind: world.Opens}, "\x00\x01\x02t": {Q: api.Request{Kind: api.Remove, Topic: "t"}},
	} {
		if b, e := script.PutStep(s); string(b) != want || e != api.OK {
			t.Errorf("%x %v", b, e)
		}
	}
	q := api.Request{Kind: api.Remove, Topic: "t"}
	for i, c := range []struct {
		s world.Step
		e api.Errno
	}{
		{world.Step{Kind: 6, N: 1}, api.ErrArg}, {world.Step{N: 1}, api.ErrForm}, {world.Step{Q: q, Done: true}, api.ErrForm}, {world.Step{Q: q, Fate: []byte{1}}, api.ErrForm},
		{world.Step{Kind: world.Ticks, Q: q}, api.ErrForm}, {world.Step{Kind: world.Ticks, Done: true}, api.ErrForm}, {world.Step{Kind: world.Works, Fate: []byte{1}}, api.ErrForm},
		{world.Step{Kind: world.Fails, Fate: make([]byte, 65)}, api.ErrForm}, {world.Step{Kind: world.Fails, Q: q}, api.ErrForm}, {world.Step{Kind: world.Crashes, N: 1}, api.ErrForm}, {world.Step{Kind: world.Opens, N: 1}, api.ErrForm},
		{world.Step{Kind: world.Opens, Fate: []byte{1}}, api.ErrForm}, {world.Step{Kind: world.Crashes, Fate: make([]byte, 65)}, api.ErrLong}, {world.Step{Q: api.Request{Kind: 12}}, api.ErrKind}, {world.Step{Q: api.Request{Index: 1}}, api.ErrForm},
	} {
		if b, e := script.PutStep(c.s); b != nil || e != c.e {
			t.Error(i, e)
		}
	}
}

// P27.1
func TestGetStepErrors(t *testing.T) {
	for _, b := range []string{"", "\x06", "\xff", "\x00", "\x00\x0c", "\x01", "\x01\x00\x00", "\x02\x80\x00", "\x03\x06", "\x03\x06\x02", "\x03\x06\x01\x00", "\x05\x00", "\x04" + strings.Repeat("x", 65), "\x00\x01\x02t\x00"} {
		if s, e := script.GetStep([]byte(b)); e != api.ErrForm || !script.Same(s, world.Step{}) {
			t.Errorf("%x %v", b, e)
		}
	}
}

// P27.2
func TestPut(t *testing.T) {
	b, e := script.Put([]world.Step{{Kind: world.Opens}, {Kind: world.Ticks, N: 5}})
	if string(b) != "\x02\x05\x04\x01\x0a" || e != api.OK {
		t.Errorf("%x %v", b, e)
	}
	if b, e := script.Put(nil); len(b) != 0 || e != api.OK {
		t.Error(e)
	}
	many := slices.Repeat([]world.Step{{Kind: world.Opens}}, 1000)
	if b, e := script.Put(many); len(b) != 2000 || e != api.OK {
		t.Error(e)
	}
	if b, e := script.Put(append(many, world.Step{Kind: 9})); b != nil || e != api.ErrLong {
		t.Error(e)
	}
	if b, e := script.Put([]world.Step{{Kind: world.Opens}, {Kind: 9}, {N: 1}}); b != nil || e != api.ErrArg {
		t.Error(e)
	}
	long := slices.Repeat([]world.Step{{Kind: world.Crashes, Fate: make([]byte, 64)}}, 975) // 67 bytes each
	if b, e := script.Put(long); len(b) != 65325 || e != api.OK {
		t.Error(len(b), e)
	}
	edge := append(slices.Repeat(long[:1], 978), slices.Repeat([]world.Step{{Kind: world.Opens}}, 5)...)
	if b, e := script.Put(edge); len(b) != api.MaxScript || e != api.OK {
		t.Error(len(b), e)
	} else if l, e := script.Get(b); len(l) != 983 || e != api.OK {
		t.Error(len(l), e)
	}
	if b, e := script.Put(append(edge, world.Step{Kind: world.Opens})); b != nil || e != api.ErrLong {
		t.Error(len(b), e)
	}
	if b, e := script.Put(append(long, long[:4]...)); b != nil || e != api.ErrLong {
		t.Error(e)
	}
}

// P27.2
func TestGetErrors(t *testing.T) {
	crash := "\x82\x01\x04" + strings.Repeat("x", 64)
	for _, b := range []string{"\x00", "\x02", "\x02\x06", "\x04\x05", "\x02\x05\x00", "\x82\x00\x05", "\x01\x05", strings.Repeat("\x02\x05", 1001), strings.Repeat(crash, 979)} {
		if l, e := script.Get([]byte(b)); e != api.ErrForm || l != nil {
			t.Errorf("%x %v", b[:min(len(b), 20)], e)
		}
	}
	for n, b := range map[int]string{0: "", 1000: strings.Repeat("\x02\x05", 1000), 978: strings.Repeat(crash, 978)} {
		if l, e := script.Get([]byte(b)); e != api.OK || len(l) != n {
			t.Error(n, len(l), e)
		}
	}
}

// P27.3
func TestPlay(t *testing.T) {
	c := api.Config{Time: -1, Blocks: -1, Size: 100, Rate: 100}
	w, _ := world.New(16, 16, c)
	l := append(steps()[:2:2], world.Step{Kind: 9}, world.Step{Kind: world.Works, N: 2}, world.Step{Kind: world.Ticks, N: -1}, world.Step{Q: api.Request{Kind: 77}}, world.Step{Q: api.Request{Kind: api.Remove, Topic: "z"}}, world.Step{Kind: world.Crashes}, world.Step{Q: api.Request{Kind: api.Fetch, Topic: "t", Most: 1}})
	want := []api.Response{
		{Offset: 1}, {Kind: api.Produce, Next: 2}, {Kind: 255, Err: api.ErrArg}, {Kind: 255}, {Kind: 255, Err: api.ErrRange}, {Kind: 255, Err: api.ErrKind}, {Kind: api.Remove, Err: api.ErrNone}, {Kind: 255},
		{Kind: api.Fetch, Next: 2, Batches: []api.Batch{l[1].Q.Batch}},
	}
	got, n := script.Play(w, l)
	if len(got) != len(want) || n != 4 {
		t.Error(len(got), n)
	}
	for i, b := range got {
		if a, e := wire.GetResponse(b); e != api.OK || !wire.SameResponse(a, want[i]) {
			t.Error(i, a, e)
		}
	}
	got, n = script.Play(w, []world.Step{{Q: api.Request{Kind: api.Committed, Topic: "z"}}})
	if a, e := wire.GetResponse(got[0]); n != 1 || e != api.OK || !wire.SameResponse(a, api.Response{Kind: api.Committed, Err: api.ErrNone}) {
		t.Error(a, e)
	}
	got, n = script.Play(nil, l[:3])
	if a, e := wire.GetResponse(got[1]); n != 3 || e != api.OK || !wire.SameResponse(a, api.Response{Kind: api.Produce, Err: api.ErrNil}) {
		t.Error(a, e)
	}
	v, _ := world.New(16, 16, c)
	for i := range 40 {
		v.Do(world.Step{Q: api.Request{Kind: api.Create, Topic: strings.Repeat("x", i%3+1), Parts: 1}})
		v.Do(world.Step{Q: api.Request{Kind: api.Remove, Topic: strings.Repeat("x", i%3+1)}})
	}
	v.Do(steps()[0])
	v.Do(steps()[1])
	v.Do(world.Step{Q: api.Request{Kind: api.Remove, Topic: "t"}})
	got, n = script.Play(v, []world.Step{{Kind: world.Works, N: 9}})
	if a, e := wire.GetResponse(got[0]); n != 0 || e != api.OK || !wire.SameResponse(a, api.Response{Kind: 255, Next: 1}) {
		t.Error(a, e)
	}
}

// P27.4
func TestSame(t *testing.T) {
	a := world.Step{}
	for i, change := range []func(*world.Step){func(s *world.Step) { s.Kind++ }, func(s *world.Step) { s.Q.Gen++ }, func(s *world.Step) { s.N++ }, func(s *world.Step) { s.Done = true }, func(s *world.Step) { s.Fate = []byte{0} }} {
		b := a
		change(&b)
		if script.Same(a, b) || !script.Same(b, b) {
			t.Error(i)
		}
	}
	if !script.Same(a, world.Step{Fate: []byte{}}) {
		t.Error("an empty list is none")
	}
}

// P27.5
func TestAsItWas(t *testing.T) {
	b, e := script.Put(steps())
	l, f := script.Get(b)
	if e != api.OK || f != api.OK || !slices.EqualFunc(l, steps(), script.Same) {
		t.Error(e, f, l)
	}
	again, _ := script.Get(b)
	c := api.Config{Time: 1, Blocks: 1, Size: 100, Rate: 100}
	v, _ := world.New(8, 8, c)
	w, _ := world.New(8, 8, c)
	x, n := script.Play(v, l)
	y, m := script.Play(w, again)
	if n != m || !slices.EqualFunc(x, y, bytes.Equal) {
		t.Error(n, m)
	}
	for _, s := range steps() {
		b, _ := script.PutStep(s)
		if got, e := script.GetStep(b); e != api.OK || !script.Same(got, s) {
			t.Error(s, e)
		}
	}
	p, _ := script.PutStep(steps()[7])
	got, _ := script.GetStep(p)
	p[1] = 99
	if got.Fate[0] != 7 {
		t.Error("shared")
	}
}
