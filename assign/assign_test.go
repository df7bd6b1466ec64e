package assign_test

import (
	"math"
	"slices"
	"strconv"
	"testing"

	"bilander/assign"
)

func same(a, b [][]int) bool { return slices.EqualFunc(a, b, slices.Equal) }

// P19.1
func TestSorted(t *testing.T) {
	in := []string{"b", "a", "", "b", "c", "a"}
	if l := assign.Sorted(in); !slices.Equal(l, []string{"", "a", "b", "c"}) || in[0] != "b" || in[5] != "a" || len(assign.Sorted(nil)) != 0 {
		t.Error(l, in)
	}
}

// P19.2
func TestRange(t *testing.T) {
	for i, c := range []struct {
		members []string
		parts   int
		want    [][]int
	}{
		{[]string{"b", "a"}, 5, [][]int{{0, 1, 2}, {3, 4}}},
		{[]string{"b", "a", "b"}, 4, [][]int{{0, 1}, {2, 3}}},
		{[]string{"a", "b", "c"}, 2, [][]int{{0}, {1}, {}}},
		{[]string{"a", "b", "c"}, 8, [][]int{{0, 1, 2}, {3, 4, 5}, {6, 7}}},
		{[]string{"a"}, 0, [][]int{{}}}, {[]string{"a"}, math.MinInt, [][]int{{}}}, {nil, 5, nil},
	} {
		if l := assign.Range(c.members, c.parts); !same(l, c.want) {
			t.Error(i, l)
		}
	}
	if l := assign.Range([]string{"a"}, math.MaxInt); len(l[0]) != 1000 {
		t.Error(len(l[0]))
	}
}

// P19.3
func TestTurns(t *testing.T) {
	for i, c := range []struct {
		members []string
		parts   int
		want    [][]int
	}{
		{[]string{"b", "a"}, 5, [][]int{{0, 2, 4}, {1, 3}}}, {[]string{"a", "b", "c", "a"}, 2, [][]int{{0}, {1}, {}}}, {[]string{"a"}, -1, [][]int{{}}}, {nil, 5, nil},
	} {
		if l := assign.Turns(c.members, c.parts); !same(l, c.want) {
			t.Error(i, l)
		}
	}
	if l := assign.Turns([]string{"a", "b"}, 1001); len(l[0]) != 500 || len(l[1]) != 500 {
		t.Error(len(l[0]))
	}
}

// P19.4
func TestOf(t *testing.T) {
	members := []string{"c", "a", "b", "a"}
	for member, want := range map[string][]int{"a": {0, 1, 2}, "b": {3, 4, 5}, "c": {6, 7}, "d": nil, "": nil} {
		if l := assign.Of(members, 8, member); !slices.Equal(l, want) {
			t.Error(member, l)
		}
	}
	if assign.Of(nil, 8, "a") != nil {
		t.Error("no members")
	}
}

// P19.5
func TestEachPartOnce(t *testing.T) {
	for n := range 20 {
		var members []string
		for i := range n {
			members = append(members, strconv.Itoa(i*7%20))
		}
		for parts := range 40 {
			for _, l := range [][][]int{assign.Range(members, parts), assign.Turns(members, parts)} {
				var all []int
				least, most := 1000, 0
				for _, own := range l {
					all = append(all, own...)
					least, most = min(least, len(own)), max(most, len(own))
				}
				slices.Sort(all)
				if n > 0 && (len(all) != parts || len(slices.Compact(all)) != parts || most > least+1 || parts > 0 && all[parts-1] != parts-1) || len(l) != n {
					t.Fatal(n, parts, l)
				}
			}
		}
	}
}
