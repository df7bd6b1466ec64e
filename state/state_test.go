package state_test

import (
	"math/rand/v2"
	"slices"
	"strconv"
	"testing"

	"bilander/api"
	"bilander/state"
)

// sample tells a state with two topics, one of two parts, and three links.
func sample() api.State {
	return api.State{Next: 6, Topics: []api.Topic{{ID: 1, Name: "a", Parts: 2}, {ID: 4, Name: "b", Parts: 1, Compact: true}}, Chains: []api.Chain{
		{Part: api.Part{Topic: 1, Index: 0}, Start: 3, Links: []api.Link{{Zone: 5, Base: 2}, {Zone: 7, Base: 9}}},
		{Part: api.Part{Topic: 1, Index: 1}},
		{Part: api.Part{Topic: 4, Index: 0}, Links: []api.Link{{Zone: 2, Base: 0}}},
	}}
}

// P9.1
func TestCheck(t *testing.T) {
	if state.Check(sample()) != api.OK || state.Check(api.State{}) != api.OK || state.Check(api.State{Next: api.MaxSeq}) != api.OK {
		t.Error("good ones")
	}
	for _, ids := range [][2]int{{4, 1}, {4, 4}} { // the chains are just the topics' parts
		s := api.State{Next: 6}
		for i, id := range ids {
			s.Topics = append(s.Topics, api.Topic{ID: id, Name: string(rune('a' + i)), Parts: 1})
			s.Chains = append(s.Chains, api.Chain{Part: api.Part{Topic: id}})
		}
		if state.Check(s) != api.ErrForm {
			t.Error(ids)
		}
	}
	top := sample()
	top.Chains[0].Start, top.Chains[0].Links[1].Base = api.MaxOffset, api.MaxOffset
	if state.Check(top) != api.OK {
		t.Error("the last offset")
	}
	many := api.State{Next: 17}
	for i := range 17 {
		many.Topics = append(many.Topics, api.Topic{ID: i, Name: "t" + strconv.Itoa(i), Parts: 1})
		many.Chains = append(many.Chains, api.Chain{Part: api.Part{Topic: i}})
	}
	if state.Check(many) != api.ErrForm {
		t.Error("too many topics")
	}
	many.Topics, many.Chains = many.Topics[:16], many.Chains[:16]
	if state.Check(many) != api.OK {
		t.Error("as many topics as may be")
	}
	for i, change := range []func(*api.State){
		func(s *api.State) { s.Next = 4 }, func(s *api.State) { s.Next = api.MaxSeq + 1 }, func(s *api.State) { s.Next, s.Topics, s.Chains = -1, nil, nil },
		func(s *api.State) { s.Topics[0].ID = -1 }, func(s *api.State) { s.Topics[0].ID = 4 }, func(s *api.State) { s.Topics[1].ID = 0 },
		func(s *api.State) { s.Topics[0].Name = "" }, func(s *api.State) { s.Topics[0].Parts = 9 }, func(s *api.State) { s.Topics[1].Parts = 0 },
		func(s *api.State) { s.Topics[1].Name = "a" }, func(s *api.State) { s.Chains = s.Chains[1:] }, func(s *api.State) { s.Chains = s.Chains[:2] },
		func(s *api.State) { s.Chains[0], s.Chains[1] = s.Chains[1], s.Chains[0] }, func(s *api.State) { s.Chains[1].Part.Index = 2 },
		func(s *api.State) { s.Chains = append(s.Chains, s.Chains[2]) }, func(s *api.State) { s.Chains[0].Start = -1 }, func(s *api.State) { s.Chains[1].Start = api.MaxOffset + 1 },
		func(s *api.State) { s.Chains[0].Links[0].Zone = 1 }, func(s *api.State) { s.Chains[0].Links[0].Zone = 64 }, func(s *api.State) { s.Chains[0].Links[0].Zone = 7 },
		func(s *api.State) { s.Chains[0].Links[0].Zone = 2 }, func(s *api.State) { s.Chains[0].Links[0].Base = -1 }, func(s *api.State) { s.Chains[0].Links[0].Base = 10 },
		func(s *api.State) { s.Chains[2].Links[0].Base = api.MaxOffset + 1 },
	} {
		s := sample()
		change(&s)
		if state.Check(s) != api.ErrForm {
			t.Error(i)
		}
	}
}

func link(kind uint8, topic, index, count, zone, base int) api.Meta {
	return api.Meta{Kind: kind, Topic: topic, Index: index, Count: count, Zone: zone, Base: base}
}

// P9.2
func TestStepErrors(t *testing.T) {
	full := api.State{Next: 16}
	for i := range 16 {
		full.Topics = append(full.Topics, api.Topic{ID: i, Name: "t" + strconv.Itoa(i), Parts: 1})
		full.Chains = append(full.Chains, api.Chain{Part: api.Part{Topic: i}})
	}
	makes := func(topic int, name string) api.Meta {
		return api.Meta{Kind: api.Makes, Topic: topic, Name: name, Parts: 1}
	}
	for i, c := range []struct {
		s api.State
		m api.Meta
		e api.Errno
	}{
		{full, makes(3, "t1"), api.ErrFull}, {sample(), makes(5, "a"), api.ErrState}, {sample(), makes(6, "a"), api.ErrThere}, {api.State{Next: api.MaxSeq}, makes(api.MaxSeq, "a"), api.ErrState},
		{sample(), api.Meta{Kind: 7}, api.ErrKind}, {sample(), makes(6, ""), api.ErrName}, {sample(), api.Meta{Kind: api.Skips, Topic: 5}, api.ErrOrder},
		{sample(), api.Meta{Kind: api.Deletes, Topic: 2}, api.ErrNone}, {sample(), link(api.Links, 2, 0, 0, 9, 9), api.ErrNone}, {sample(), link(api.Links, 1, 2, 0, 0, 9), api.ErrNone},
		{sample(), link(api.Begins, 4, 1, 0, 0, 9), api.ErrNone}, {sample(), link(api.Unlinks, 1, 3, 0, 5, 0), api.ErrNone}, {sample(), link(api.Swaps, 3, 0, 1, 9, 3), api.ErrNone},
		{sample(), link(api.Links, 1, 0, 0, 1, 0), api.ErrRange}, {sample(), link(api.Links, 1, 0, 0, 2, 0), api.ErrThere}, {sample(), link(api.Links, 1, 0, 0, 9, 8), api.ErrOrder}, {api.State{Next: 1, Topics: []api.Topic{{Name: "a", Parts: 1}}, Chains: []api.Chain{{Links: []api.Link{{Zone: 5, Base: 4}}}}}, link(api.Links, 0, 0, 0, 9, 3), api.ErrOrder},
		{sample(), link(api.Unlinks, 1, 0, 0, 7, 0), api.ErrNone}, {sample(), link(api.Unlinks, 1, 1, 0, 7, 0), api.ErrNone},
		{sample(), link(api.Swaps, 1, 0, 2, 0, 0), api.ErrArg}, {sample(), link(api.Swaps, 1, 0, 0, 9, 3), api.ErrArg}, {sample(), link(api.Swaps, 1, 0, 1, 0, 3), api.ErrArg}, {sample(), link(api.Swaps, 1, 1, 0, 0, 0), api.ErrArg},
		{sample(), link(api.Swaps, 1, 0, 1, 1, 0), api.ErrRange}, {sample(), link(api.Swaps, 1, 0, 1, 5, 0), api.ErrThere}, {sample(), link(api.Swaps, 1, 0, 1, 9, 1), api.ErrOrder}, {sample(), link(api.Swaps, 1, 0, 1, 9, 10), api.ErrOrder},
		{sample(), link(api.Begins, 1, 0, 0, 0, 2), api.ErrOrder},
	} {
		before := state.Image(c.s)
		s, e := state.Step(c.s, c.m)
		if e != c.e || !state.Same(s, api.State{}) || !slices.Equal(state.Image(c.s), before) {
			t.Error(i, e)
		}
	}
}

// P9.2
func TestSteps(t *testing.T) {
	five := []api.Link{{Zone: 5, Base: 2}}
	seven := []api.Link{{Zone: 7, Base: 9}}
	for i, c := range []struct {
		m     api.Meta
		start int
		links []api.Link
	}{
		{link(api.Links, 1, 0, 0, 63, 9), 3, slices.Concat(five, seven, []api.Link{{Zone: 63, Base: 9}})},
		{link(api.Unlinks, 1, 0, 0, 5, 0), 3, seven},
		{link(api.Swaps, 1, 0, 1, 9, 2), 3, append([]api.Link{{Zone: 9, Base: 2}}, seven...)},
		{link(api.Swaps, 1, 0, 1, 9, 9), 3, append([]api.Link{{Zone: 9, Base: 9}}, seven...)},
		{link(api.Swaps, 1, 0, 1, 0, 0), 3, seven},
		{link(api.Swaps, 1, 0, 0, 0, 0), 3, slices.Concat(five, seven)},
		{link(api.Begins, 1, 0, 0, 0, 3), 3, slices.Concat(five, seven)},
		{link(api.Begins, 1, 0, 0, 0, 99), 99, slices.Concat(five, seven)},
	} {
		want := sample()
		want.Chains[0].Start, want.Chains[0].Links = c.start, c.links
		from := sample()
		s, e := state.Step(from, c.m)
		if e != api.OK || !state.Same(s, want) || !state.Same(from, sample()) {
			t.Error(i, e, s)
		}
	}
	s, e := state.Step(sample(), api.Meta{Kind: api.Makes, Topic: 6, Name: "c", Parts: 2, Compact: true})
	if topic, ok := state.Topic(s, "c"); e != api.OK || !ok || topic != (api.Topic{ID: 6, Name: "c", Parts: 2, Compact: true}) || s.Next != 7 || len(s.Chains) != 5 {
		t.Error(s, e)
	}
	from := sample()
	from.Topics = append(make([]api.Topic, 0, 9), from.Topics...)
	state.Step(from, api.Meta{Kind: api.Makes, Topic: 6, Name: "c", Parts: 2})
	if from.Topics[:3][2] != (api.Topic{}) {
		t.Error("spare room is written")
	}
	s, e = state.Step(from, api.Meta{Kind: api.Deletes, Topic: 1})
	if !state.Same(from, sample()) {
		t.Error("changed")
	}
	if e != api.OK || len(s.Topics) != 1 || len(s.Chains) != 1 || s.Chains[0].Part.Topic != 4 || s.Next != 6 {
		t.Error(s, e)
	}
	for _, next := range []int{6, 7, api.MaxSeq} {
		if s, e := state.Step(sample(), api.Meta{Kind: api.Skips, Topic: next}); e != api.OK || s.Next != next {
			t.Error(s.Next, e)
		}
	}
}

// P9.3
func TestPlay(t *testing.T) {
	l := []api.Meta{{Kind: api.Makes, Name: "a", Parts: 1}, link(api.Links, 0, 0, 0, 5, 0), link(api.Links, 0, 0, 0, 7, 9), link(api.Swaps, 0, 0, 1, 6, 0)}
	s, n, e := state.Play(api.State{}, l)
	if c, _ := state.Chain(s, api.Part{}); n != 4 || e != api.OK || !slices.Equal(c.Links, []api.Link{{Zone: 6}, {Zone: 7, Base: 9}}) {
		t.Error(s, n, e)
	}
	s, n, e = state.Play(api.State{}, append(l[:2:2], l[1], l[2]))
	if c, _ := state.Chain(s, api.Part{}); n != 2 || e != api.ErrThere || len(c.Links) != 1 {
		t.Error(s, n, e)
	}
	if s, n, e := state.Play(sample(), nil); n != 0 || e != api.OK || !state.Same(s, sample()) {
		t.Error(n, e)
	}
}

// P9.4
func TestImage(t *testing.T) {
	want := []api.Meta{
		{Kind: api.Skips, Topic: 1}, {Kind: api.Makes, Topic: 1, Name: "a", Parts: 2}, {Kind: api.Begins, Topic: 1, Base: 3}, link(api.Links, 1, 0, 0, 5, 2), link(api.Links, 1, 0, 0, 7, 9),
		{Kind: api.Skips, Topic: 4}, {Kind: api.Makes, Topic: 4, Name: "b", Parts: 1, Compact: true}, link(api.Links, 4, 0, 0, 2, 0), {Kind: api.Skips, Topic: 6},
	}
	if l := state.Image(sample()); !slices.Equal(l, want) {
		t.Error(l)
	}
	bad := sample()
	bad.Next = 0
	if len(state.Image(bad)) != 0 || len(state.Image(api.State{})) != 0 || !slices.Equal(state.Image(api.State{Next: 1}), []api.Meta{{Kind: api.Skips, Topic: 1}}) {
		t.Error("edges")
	}
	one := api.State{Next: 1, Topics: []api.Topic{{Name: "a", Parts: 1}}, Chains: []api.Chain{{}}}
	if l := state.Image(one); !slices.Equal(l, []api.Meta{{Kind: api.Makes, Name: "a", Parts: 1}}) {
		t.Error(l)
	}
}

// P9.5
func TestLooks(t *testing.T) {
	s := sample()
	if x, ok := state.Topic(s, "b"); !ok || x.ID != 4 {
		t.Error(x)
	}
	if x, ok := state.ByID(s, 1); !ok || x.Name != "a" {
		t.Error(x)
	}
	if x, ok := state.Topic(s, "c"); ok || x != (api.Topic{}) {
		t.Error(x)
	}
	if x, ok := state.ByID(s, 0); ok || x != (api.Topic{}) {
		t.Error(x)
	}
	c, ok := state.Chain(s, api.Part{Topic: 1})
	if !ok || c.Start != 3 || len(c.Links) != 2 {
		t.Error(c)
	}
	c.Links[0].Zone = 50
	if p, ok := state.Owner(s, 5); !ok || p != (api.Part{Topic: 1}) {
		t.Error(p)
	}
	if c, ok := state.Chain(s, api.Part{Topic: 1, Index: 2}); ok || len(c.Links) != 0 {
		t.Error(c)
	}
	for _, z := range []int{0, -1, 3, 64} {
		if p, ok := state.Owner(s, z); ok || p != (api.Part{}) {
			t.Error(z)
		}
	}
	s.Chains[2].Links = []api.Link{{Zone: 7}, {Zone: 3}}
	if p, _ := state.Owner(s, 7); p != (api.Part{Topic: 1}) || !slices.Equal(state.Zones(s), []int{3, 5, 7, 7}) {
		t.Error("zones that stand twice")
	}
	if len(state.Zones(api.State{})) != 0 {
		t.Error("no zones")
	}
}

// P9.5
func TestSame(t *testing.T) {
	for i, change := range []func(*api.State){
		func(s *api.State) { s.Next++ }, func(s *api.State) { s.Topics[0].Compact = true }, func(s *api.State) { s.Chains[1].Start++ },
		func(s *api.State) { s.Chains[0].Links[1].Base++ }, func(s *api.State) { s.Chains = s.Chains[:2] },
	} {
		s := sample()
		change(&s)
		if state.Same(s, sample()) || !state.Same(s, s) {
			t.Error(i)
		}
	}
	if !state.Same(api.State{Topics: []api.Topic{}, Chains: []api.Chain{{}}}, api.State{Chains: []api.Chain{{Links: []api.Link{}}}}) {
		t.Error("an empty list is none")
	}
}

// P9.6
func TestMayBeBehindEachStep(t *testing.T) {
	r := rand.New(rand.NewPCG(9, 9))
	s := api.State{}
	done := 0
	for range 20000 {
		m := api.Meta{Kind: uint8(r.IntN(7)), Topic: max(0, s.Next-r.IntN(8))}
		switch m.Kind {
		case api.Makes:
			m.Topic, m.Name, m.Parts = s.Next, string(rune('a'+r.IntN(20))), 1+r.IntN(3)
		case api.Links, api.Unlinks, api.Swaps, api.Begins:
			m.Index = r.IntN(3)
			if m.Kind != api.Begins {
				m.Zone = r.IntN(12)
			}
			if m.Kind != api.Unlinks {
				m.Base = r.IntN(20)
			}
			if m.Kind == api.Swaps {
				m.Count = r.IntN(3)
			}
		}
		n, e := state.Step(s, m)
		if e != api.OK {
			continue
		}
		done++
		if state.Check(n) != api.OK {
			t.Fatal(m, n)
		}
		again, k, e := state.Play(api.State{}, state.Image(n))
		if e != api.OK || k != len(state.Image(n)) || !state.Same(again, n) {
			t.Fatal(n, again, e)
		}
		s = n
	}
	if done < 1000 {
		t.Error(done)
	}
}
