package group_test

import (
	"math"
	"math/rand/v2"
	"slices"
	"strconv"
	"strings"
	"testing"

	"bilander/api"
	"bilander/group"
)

// sample has a, seen at 5, and c, seen at 9; c alone is synced.
func sample() group.Group {
	return group.Group{Gen: 3, Phase: group.Joining, Members: []group.Member{{ID: "a", Seen: 5}, {ID: "c", Seen: 9, Synced: true}}}
}

func full() group.Group {
	g := group.Group{Gen: 1, Phase: group.Joining}
	for i := range 16 {
		g.Members = append(g.Members, group.Member{ID: "m" + strconv.Itoa(10+i)})
	}
	return g
}

func broken() group.Group { return group.Group{Gen: -1} }

// P20.1
func TestCheck(t *testing.T) {
	for i, g := range []group.Group{{}, {Gen: api.MaxTime}, sample(), full(), {Phase: group.Stable, Members: []group.Member{{ID: strings.Repeat("x", 32), Seen: api.MaxTime, Synced: true}}}} {
		if group.Check(g) != api.OK {
			t.Error(i)
		}
	}
	for i, change := range []func(*group.Group){
		func(g *group.Group) { g.Members[1].ID = "a" }, func(g *group.Group) { g.Members[0].ID = "d" }, func(g *group.Group) { g.Members[0].ID = "" }, func(g *group.Group) { g.Members[1].ID = strings.Repeat("x", 33) },
		func(g *group.Group) { g.Members[0].Seen = -1 }, func(g *group.Group) { g.Members[0].Seen = api.MaxTime + 1 }, func(g *group.Group) { g.Gen = -1 }, func(g *group.Group) { g.Gen = api.MaxTime + 1 },
		func(g *group.Group) { g.Phase = group.Empty }, func(g *group.Group) { g.Phase = group.Stable }, func(g *group.Group) { g.Phase = 3 }, func(g *group.Group) { g.Members[0].Synced = true },
		func(g *group.Group) { g.Members = nil }, func(g *group.Group) { g.Phase, g.Members = group.Stable, nil }, func(g *group.Group) { g.Members = append(full().Members, group.Member{ID: "n"}) },
	} {
		g := sample()
		change(&g)
		if group.Check(g) != api.ErrForm {
			t.Error(i)
		}
	}
}

// P20.2
func TestJoin(t *testing.T) {
	late := sample()
	late.Gen = api.MaxTime
	fullAndLate := full()
	fullAndLate.Gen = api.MaxTime
	for i, c := range []struct {
		g   group.Group
		id  string
		now int
		e   api.Errno
	}{
		{broken(), "", -1, api.ErrForm}, {sample(), "", -1, api.ErrName}, {sample(), strings.Repeat("x", 33), 0, api.ErrName}, {sample(), "a", -1, api.ErrRange}, {sample(), "b", api.MaxTime + 1, api.ErrRange},
		{full(), "b", 0, api.ErrFull}, {fullAndLate, "b", 0, api.ErrFull}, {late, "b", 0, api.ErrRange},
	} {
		if g, e := group.Join(c.g, c.id, c.now); e != c.e || !group.Same(g, group.Group{}) {
			t.Error(i, g, e)
		}
	}
	g, e := group.Join(late, "a", 7)
	if m, _ := group.Find(g, "a"); e != api.OK || m.Seen != 7 || g.Gen != api.MaxTime {
		t.Error(g, e)
	}
	g, e = group.Join(sample(), "c", 7)
	if e != api.OK || !group.Same(g, sample()) {
		t.Error(g, e)
	}
	from := sample()
	g, e = group.Join(from, "b", 7)
	want := group.Group{Gen: 4, Phase: group.Joining, Members: []group.Member{{ID: "a", Seen: 5}, {ID: "b", Seen: 7}, {ID: "c", Seen: 9}}}
	if e != api.OK || !group.Same(g, want) || !group.Same(from, sample()) {
		t.Error(g, e)
	}
	roomy := sample()
	roomy.Members = append(make([]group.Member, 0, 9), roomy.Members...)
	group.Join(roomy, "b", 7)
	if !group.Same(roomy, sample()) || roomy.Members[:3][2] != (group.Member{}) {
		t.Error("changed", roomy)
	}
	if g, e := group.Join(group.Group{}, "z", 0); e != api.OK || !group.Same(g, group.Group{Gen: 1, Phase: group.Joining, Members: []group.Member{{ID: "z"}}}) {
		t.Error(g, e)
	}
}

// P20.3
func TestSyncAndBeat(t *testing.T) {
	for i, c := range []struct {
		g        group.Group
		id       string
		gen, now int
		e        api.Errno
	}{
		{broken(), "a", 9, -1, api.ErrForm}, {sample(), "z", 9, -1, api.ErrRange}, {sample(), "z", 9, 5, api.ErrMember}, {sample(), "a", 2, 5, api.ErrGen}, {sample(), "a", 4, 5, api.ErrGen}, {sample(), "a", 3, api.MaxTime + 1, api.ErrRange},
	} {
		g, parts, e := group.Sync(c.g, c.id, c.gen, 8, c.now)
		h, f := group.Beat(c.g, c.id, c.gen, c.now)
		if e != c.e || f != c.e || parts != nil || !group.Same(g, group.Group{}) || !group.Same(h, group.Group{}) {
			t.Error(i, e, f)
		}
	}
	from := sample()
	g, parts, e := group.Sync(from, "a", 3, 5, 2)
	want := group.Group{Gen: 3, Phase: group.Stable, Members: []group.Member{{ID: "a", Seen: 5, Synced: true}, {ID: "c", Seen: 9, Synced: true}}}
	if e != api.OK || !group.Same(g, want) || !slices.Equal(parts, []int{0, 1, 2}) || !group.Same(from, sample()) {
		t.Error(g, parts, e)
	}
	g, parts, e = group.Sync(sample(), "c", 3, 5, 20)
	want = group.Group{Gen: 3, Phase: group.Joining, Members: []group.Member{{ID: "a", Seen: 5}, {ID: "c", Seen: 20, Synced: true}}}
	if e != api.OK || !group.Same(g, want) || !slices.Equal(parts, []int{3, 4}) {
		t.Error(g, parts, e)
	}
	if g, e = group.Beat(sample(), "c", 3, 20); e != api.OK || !group.Same(g, want) {
		t.Error(g, e)
	}
}

// P20.4
func TestLeaveAndTick(t *testing.T) {
	late := sample()
	late.Gen = api.MaxTime
	for i, c := range []struct {
		g  group.Group
		id string
		e  api.Errno
	}{{broken(), "a", api.ErrForm}, {late, "b", api.ErrMember}, {late, "a", api.ErrRange}} {
		if g, e := group.Leave(c.g, c.id); e != c.e || !group.Same(g, group.Group{}) {
			t.Error(i, e)
		}
	}
	from := sample()
	g, e := group.Leave(from, "a")
	if want := (group.Group{Gen: 4, Phase: group.Joining, Members: []group.Member{{ID: "c", Seen: 9}}}); e != api.OK || !group.Same(g, want) || !group.Same(from, sample()) {
		t.Error(g, e)
	}
	if g, e = group.Leave(g, "c"); e != api.OK || !group.Same(g, group.Group{Gen: 5}) {
		t.Error(g, e)
	}
	for i, c := range []struct {
		now, patience int
		left          []string
	}{
		{10, 5, []string{"a", "c"}}, {11, 5, []string{"c"}}, {14, 5, []string{"c"}}, {15, 5, nil}, {6, -3, []string{"c"}}, {5, -3, []string{"a", "c"}}, {math.MinInt, 0, []string{"a", "c"}}, {math.MaxInt, math.MaxInt, []string{"a", "c"}},
	} {
		g := group.Tick(from, c.now, c.patience)
		if !slices.Equal(group.Names(g), c.left) || len(c.left) == 2 && !group.Same(g, sample()) || len(c.left) < 2 && g.Gen != 4 || len(c.left) == 0 && g.Phase != group.Empty || !group.Same(from, sample()) {
			t.Error(i, g)
		}
	}
	odd := sample()
	odd.Phase = group.Stable
	if !group.Same(group.Tick(late, 1000, 0), late) || !group.Same(group.Tick(odd, 1000, 0), odd) {
		t.Error("as it is")
	}
}

// P20.5
func TestLooks(t *testing.T) {
	if l := group.Names(sample()); !slices.Equal(l, []string{"a", "c"}) {
		t.Error(l)
	}
	twice := group.Group{Members: []group.Member{{ID: "a", Seen: 1}, {ID: "a", Seen: 2}}}
	if m, ok := group.Find(twice, "a"); !ok || m.Seen != 1 {
		t.Error(m)
	}
	if m, ok := group.Find(twice, "b"); ok || m != (group.Member{}) {
		t.Error(m)
	}
	for i, change := range []func(*group.Group){func(g *group.Group) { g.Gen++ }, func(g *group.Group) { g.Phase++ }, func(g *group.Group) { g.Members[0].Seen++ }, func(g *group.Group) { g.Members = g.Members[:1] }} {
		g := sample()
		change(&g)
		if group.Same(g, sample()) || !group.Same(g, g) {
			t.Error(i)
		}
	}
}

// P20.6
func TestMayBe(t *testing.T) {
	r := rand.New(rand.NewPCG(20, 20))
	g := group.Group{}
	had := map[int]string{}
	for now := range 20000 {
		id := string(rune('a' + r.IntN(20)))
		n, e := g, api.OK
		var parts []int
		switch r.IntN(6) {
		case 0:
			n, e = group.Join(g, id, now)
		case 1:
			n, e = group.Leave(g, id)
		case 2:
			n = group.Tick(g, now, 20)
		case 3:
			n, e = group.Beat(g, id, g.Gen-r.IntN(2), now)
		default:
			n, parts, e = group.Sync(g, id, g.Gen, 7, now)
		}
		if e != api.OK {
			continue
		}
		if group.Check(n) != api.OK || n.Gen < g.Gen || n.Gen > g.Gen+1 {
			t.Fatal(n)
		}
		if n.Gen != g.Gen {
			clear(had)
		}
		for _, p := range parts {
			if who, there := had[p]; there && who != id || p < 0 || p > 6 {
				t.Fatal(p, who, id)
			}
			had[p] = id
		}
		if n.Phase == group.Stable && len(had) != 7 {
			t.Fatal(n, had)
		}
		g = n
	}
}
