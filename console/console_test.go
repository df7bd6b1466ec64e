package console_test

import (
	"math"
	"slices"
	"strings"
	"testing"

	"bilander/api"
	"bilander/console"
	"bilander/script"
	"bilander/world"
)

var free = api.Config{Time: -1, Blocks: 6, Grace: 5, Patience: 9, Size: 1000, Rate: 1000}

func ask(q api.Request) world.Step { return world.Step{Kind: world.Asks, Q: q} }

// P28.1
func TestWordsAndDigits(t *testing.T) {
	for line, want := range map[string][]string{"": {""}, "a": {"a"}, "a b": {"a", "b"}, "a  b ": {"a", "", "b", ""}, " ": {"", ""}, "a\tb": {"a\tb"}} {
		if l := console.Words(line); !slices.Equal(l, want) {
			t.Errorf("%q: %q", line, l)
		}
	}
	for n, want := range map[int]string{0: "0", -1: "-1", 907: "907", math.MinInt: "-9223372036854775808", math.MaxInt: "9223372036854775807"} {
		if s := console.Digits(n); s != want {
			t.Error(n, s)
		}
	}
}

// P28.2
func TestParse(t *testing.T) {
	records := []api.Record{
		{Time: 5, Keyed: true, Key: "k", Value: "v=w!"}, {Delta: 1, Time: 5, Keyed: true, Value: "x"}, {Delta: 2, Time: 5, Keyed: true, Key: "k"}, {Delta: 3, Time: 5, Keyed: true, Key: "k!", Dead: true},
		{Delta: 4, Time: 5, Keyed: true, Dead: true}, {Delta: 5, Time: 5, Value: "v"}, {Delta: 6, Time: 5}, {Delta: 7, Time: 5, Value: "!v"},
	}
	for line, want := range map[string]world.Step{
		"create t 3 1":                     ask(api.Request{Kind: api.Create, Topic: "t", Parts: 3, Compact: true}),
		"create  0 0":                      ask(api.Request{Kind: api.Create}),
		"remove t":                         ask(api.Request{Kind: api.Remove, Topic: "t"}),
		"describe _t!":                     ask(api.Request{Kind: api.Describe, Topic: "_t!"}),
		"fetch t 1 2 3":                    ask(api.Request{Kind: api.Fetch, Topic: "t", Index: 1, Offset: 2, Most: 3}),
		"bytime t 1 2":                     ask(api.Request{Kind: api.ByTime, Topic: "t", Index: 1, Time: 2}),
		"join g m":                         ask(api.Request{Kind: api.Join, Group: "g", Member: "m"}),
		"leave g m":                        ask(api.Request{Kind: api.Leave, Group: "g", Member: "m"}),
		"sync g m 4 t":                     ask(api.Request{Kind: api.Sync, Group: "g", Member: "m", Gen: 4, Topic: "t"}),
		"beat g m 4":                       ask(api.Request{Kind: api.Beat, Group: "g", Member: "m", Gen: 4}),
		"commit g m 4 t 1 2":               ask(api.Request{Kind: api.Commit, Group: "g", Member: "m", Gen: 4, Topic: "t", Index: 1, Offset: 2}),
		"committed g t 1":                  ask(api.Request{Kind: api.Committed, Group: "g", Topic: "t", Index: 1}),
		"tick 999999999999":                {Kind: world.Ticks, N: 999999999999},
		"work 0":                           {Kind: world.Works},
		"fail 3 1":                         {Kind: world.Fails, N: 3, Done: true},
		"crash":                            {Kind: world.Crashes},
		"crash 0 255":                      {Kind: world.Crashes, Fate: []byte{0, 255}},
		"open":                             {Kind: world.Opens},
		"crash" + strings.Repeat(" 7", 64): {Kind: world.Crashes, Fate: []byte(strings.Repeat("\x07", 64))},
		"produce t 1 1 2 3 4 5 k=v=w! =x k= k!! ! v  !v": ask(api.Request{Kind: api.Produce, Topic: "t", Index: 1, Flush: true, Batch: api.Batch{Count: 8, Producer: 2, Epoch: 3, Seq: 4, Records: records}}),
	} {
		if s, e := console.Parse(line); e != api.OK || !script.Same(s, want) {
			t.Errorf("%q: %v %v", line, s, e)
		}
	}
	if s, e := console.Parse("produce t 0 0 0 0 0 0 v"); e != api.OK || s.Q.Batch.Count != 1 {
		t.Error(e)
	}
	if s, e := console.Parse("produce t 0 0 0 0 0 0" + strings.Repeat(" v", 32)); e != api.OK || s.Q.Batch.Count != 32 || s.Q.Batch.Records[31].Delta != 31 {
		t.Error(e)
	}
}

// P28.2
func TestParseErrors(t *testing.T) {
	for _, line := range []string{
		"", " ", "creates t 1 0", "create", "create t 1", "create t 1 0 0", "create t 1 2", "create t 1 ", "create t 1 00", "create t 01 0", "create t -1 0", "create t +1 0", "create t  1 0", "create t 1234567890123 0", "create t 1x 0", "create t \xff 0", "create t ١ 0",
		"remove", "remove t t", "describe", "produce t 0 0 0 0 0 0", "produce t 0 2 0 0 0 0 v", "produce t 0 0 0 0 0 0" + strings.Repeat(" v", 33), "fetch t 0 0", "fetch t 0 0 1 1", "bytime t 0", "bytime t 0 -1",
		"join g", "join g m m", "leave g", "sync g m 1", "sync g m t 1", "beat g m", "commit g m 1 t 0", "committed g t", "tick", "tick 1 1", "work", "fail 1", "fail 1 y", "crash 256", "crash 1 ", "crash" + strings.Repeat(" 7", 65), "crash -1", "open 1", "Open", " open",
	} {
		if s, e := console.Parse(line); e != api.ErrLine || !script.Same(s, world.Step{}) {
			t.Errorf("%q: %v %v", line, s, e)
		}
	}
}

// P28.3
func TestTold(t *testing.T) {
	b := api.Batch{Base: 7, Count: 5, Records: []api.Record{{Time: 1, Keyed: true, Key: "k", Value: "v"}, {Delta: 1, Time: -2, Value: "v"}, {Delta: 2, Keyed: true, Key: "k", Dead: true}, {Delta: 4, Dead: true, Key: "l"}}}
	of := func(kind uint8) world.Step { return ask(api.Request{Kind: kind}) }
	for i, c := range []struct {
		s    world.Step
		a    api.Response
		e    api.Errno
		want []string
	}{
		{of(api.Create), api.Response{Offset: 3}, api.ErrDown, []string{"error 10"}}, {of(99), api.Response{}, -7, []string{"error -7"}},
		{world.Step{Kind: world.Works}, api.Response{Next: 4}, 0, []string{"worked 4"}}, {world.Step{Kind: world.Ticks}, api.Response{Next: 4}, 0, []string{"ok"}}, {world.Step{Kind: 77}, api.Response{}, 0, []string{"ok"}},
		{of(api.Create), api.Response{Offset: 3}, 0, []string{"topic 3"}}, {of(api.Describe), api.Response{Offset: 3, Next: 2, Parts: []int{0, 5, 1, 9}}, 0, []string{"topic 3 2 0 5 1 9"}},
		{of(api.Produce), api.Response{Offset: 3, Next: 5}, 0, []string{"at 3 next 5"}}, {of(api.Produce), api.Response{Offset: 3, Next: 5, Double: true}, 0, []string{"at 3 next 5 double"}},
		{of(api.Fetch), api.Response{Next: 12, Batches: []api.Batch{b, {Base: 12, Records: []api.Record{{}}}}}, 0, []string{"7 1 k=v", "8 -2 v", "9 0 k!", "11 0 l!", "12 0 ", "next 12"}}, {of(api.Fetch), api.Response{}, 0, []string{"next 0"}},
		{of(api.ByTime), api.Response{Offset: 3, Double: true}, 0, []string{"at 3"}}, {of(api.ByTime), api.Response{Offset: 3}, 0, []string{"none"}}, {of(api.Committed), api.Response{Offset: 3, Double: true}, 0, []string{"at 3"}}, {of(api.Committed), api.Response{}, 0, []string{"none"}},
		{of(api.Join), api.Response{Gen: 3, Names: []string{"a", "b"}}, 0, []string{"gen 3 a b"}}, {of(api.Leave), api.Response{Gen: 3}, 0, []string{"gen 3"}}, {of(api.Leave), api.Response{Gen: 3, Names: []string{""}}, 0, []string{"gen 3 "}},
		{of(api.Sync), api.Response{Gen: 3, Parts: []int{1, 2}}, 0, []string{"gen 3 1 2"}}, {of(api.Beat), api.Response{Gen: 3, Parts: []int{1}}, 0, []string{"gen 3"}},
		{of(api.Remove), api.Response{}, 0, []string{"ok"}}, {of(api.Commit), api.Response{}, 0, []string{"ok"}}, {of(12), api.Response{}, 0, []string{"ok"}}, {of(255), api.Response{}, 0, []string{"ok"}},
	} {
		if l := console.Told(c.s, c.a, c.e); !slices.Equal(l, c.want) {
			t.Errorf("%d: %q", i, l)
		}
	}
}

// P28.4
func TestSession(t *testing.T) {
	for text, want := range map[string]string{
		"create t 1 0\nproduce t 0 1 0 0 0 5 k=v x\nfetch t 0 0 9": "topic 1\nat 0 next 2\n0 5 k=v\n1 5 x\nnext 2\n",
		"":                             "",
		"\n\n# nothing\n#\n":           "",
		"# a\nopen\n\nopen x\n open\n": "ok\nerror 60\nerror 60\n",
		"remove t\ndescribe _offsets":  "error 8\ntopic 0 1 0 0\n",
		"open\r\n":                     "error 60\n",
		strings.Repeat("x", 65537):     "error 5\n",
		strings.Repeat("x", 65536):     "error 60\n",
		"tick 5\ntick 4\nwork 3\nfail 0 0\ncreate t 1 0\nopen\nwork 1\ncrash 0\ncreate t 1 0":                                         "ok\nerror 11\nworked 0\nok\nerror 10\nerror 10\nerror 13\nok\ntopic 1\n",
		"join g a\njoin g b\ncreate t 3 0\nsync g a 2 t\nbeat g b 2\ncommit g a 2 t 0 0\ncommitted g t 0\ncommitted g t 1\nleave g a": "gen 1 a\ngen 2 a b\ntopic 1\ngen 2 0 1\ngen 2\nok\nat 0\nnone\ngen 3 b\n",
	} {
		w, _ := world.New(8, 8, free)
		if got := console.Session(w, text); got != want {
			t.Errorf("%.60q: %q", text, got)
		}
	}
	if got := console.Session(nil, "open\nx"); got != "error 1\nerror 60\n" {
		t.Error(got)
	}
}

// P28.4: nothing is done of a text that is too long.
func TestTooLong(t *testing.T) {
	w, _ := world.New(8, 8, free)
	console.Session(w, "create t 1 0\n"+strings.Repeat("\n", 65536))
	if len(w.Broker().State().Topics) != 1 {
		t.Error("something is done")
	}
}

// P28.5
func TestHangsOnTextAlone(t *testing.T) {
	text := "create t 2 0\nproduce t 1 0 7 0 0 5 a b c\nproduce t 1 0 7 0 0 5 a b c\nfail 1 1\nproduce t 1 1 7 0 3 5 d\ncrash 1 40\nfetch t 1 0 9\ntick 50\nwork 9"
	v, _ := world.New(8, 8, free)
	w, _ := world.New(8, 8, free)
	if a, b := console.Session(v, text), console.Session(w, text); a != b || a == "" {
		t.Error(a, b)
	}
}
