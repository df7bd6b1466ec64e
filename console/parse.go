package console

import (
	"strconv"
	"strings"

	"bilander/api"
	"bilander/world"
)

const (
	mostDigits = 12
	mostFate   = 64
	mostByte   = 255
)

// wrong is what is thrown where a word is not as said.
type wrong struct{}

// words are a line's words that are left.
type words struct {
	left []string
}

func must(yes bool) {
	if !yes {
		panic(wrong{})
	}
}

// text takes a word off.
func (w *words) text() string {
	must(len(w.left) > 0)
	s := w.left[0]
	w.left = w.left[1:]
	return s
}

// number takes a number off.
func (w *words) number() int {
	s := w.text()
	must(s != "" && len(s) <= mostDigits && (s == "0" || s[0] != '0'))
	for _, c := range s {
		must(c >= '0' && c <= '9')
	}
	n, err := strconv.Atoi(s)
	must(err == nil)
	return n
}

// yes takes a yes off.
func (w *words) yes() bool {
	s := w.text()
	must(s == "0" || s == "1")
	return s == "1"
}

// record takes a record off.
func (w *words) record() api.Record {
	s := w.text()
	if key, value, keyed := strings.Cut(s, "="); keyed {
		return api.Record{Keyed: true, Key: key, Value: value}
	}
	if key, dead := strings.CutSuffix(s, "!"); dead {
		return api.Record{Keyed: true, Dead: true, Key: key}
	}
	return api.Record{Value: s}
}

// batch takes a batch off, which is all that is left.
func (w *words) batch() api.Batch {
	b := api.Batch{}
	b.Producer = w.number()
	b.Epoch = w.number()
	b.Seq = w.number()
	time := w.number()
	b.Count = len(w.left)
	must(b.Count >= 1 && b.Count <= api.MaxBatch)
	for i := range b.Count {
		r := w.record()
		r.Delta, r.Time = i, time
		b.Records = append(b.Records, r)
	}
	return b
}

// topical takes a request off that begins with a topic.
func (w *words) topical(first string) api.Request {
	q := api.Request{Topic: w.text()}
	switch first {
	case "create":
		q.Kind = api.Create
		q.Parts = w.number()
		q.Compact = w.yes()
		return q
	case "remove":
		q.Kind = api.Remove
		return q
	case "describe":
		q.Kind = api.Describe
		return q
	}
	q.Index = w.number()
	switch first {
	case "produce":
		q.Kind = api.Produce
		q.Flush = w.yes()
		q.Batch = w.batch()
	case "fetch":
		q.Kind = api.Fetch
		q.Offset = w.number()
		q.Most = w.number()
	case "bytime":
		q.Kind = api.ByTime
		q.Time = w.number()
	}
	return q
}

// grouped takes a request off that begins with a group.
func (w *words) grouped(first string) api.Request {
	q := api.Request{Group: w.text()}
	if first == "committed" {
		q.Kind = api.Committed
		q.Topic = w.text()
		q.Index = w.number()
		return q
	}
	q.Member = w.text()
	switch first {
	case "join":
		q.Kind = api.Join
		return q
	case "leave":
		q.Kind = api.Leave
		return q
	}
	q.Gen = w.number()
	switch first {
	case "sync":
		q.Kind = api.Sync
		q.Topic = w.text()
	case "beat":
		q.Kind = api.Beat
	case "commit":
		q.Kind = api.Commit
		q.Topic = w.text()
		q.Index = w.number()
		q.Offset = w.number()
	}
	return q
}

// crash takes a crash's fate off, which is all that is left.
func (w *words) crash() world.Step {
	s := world.Step{Kind: world.Crashes}
	must(len(w.left) <= mostFate)
	for len(w.left) > 0 {
		n := w.number()
		must(n <= mostByte)
		s.Fate = append(s.Fate, byte(n))
	}
	return s
}

// step takes a step off.
func (w *words) step() world.Step {
	switch first := w.text(); first {
	case "create", "remove", "describe", "produce", "fetch", "bytime":
		return world.Step{Kind: world.Asks, Q: w.topical(first)}
	case "join", "leave", "sync", "beat", "commit", "committed":
		return world.Step{Kind: world.Asks, Q: w.grouped(first)}
	case "tick":
		return world.Step{Kind: world.Ticks, N: w.number()}
	case "work":
		return world.Step{Kind: world.Works, N: w.number()}
	case "fail":
		s := world.Step{Kind: world.Fails}
		s.N = w.number()
		s.Done = w.yes()
		return s
	case "crash":
		return w.crash()
	case "open":
		return world.Step{Kind: world.Opens}
	}
	panic(wrong{})
}

// Parse reads a line.
func Parse(line string) (s world.Step, err api.Errno) {
	defer func() {
		if recover() != nil {
			s, err = world.Step{}, api.ErrLine
		}
	}()
	w := &words{left: Words(line)}
	s = w.step()
	must(len(w.left) == 0)
	return s, api.OK
}
