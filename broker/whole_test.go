package broker_test

import (
	"math/rand/v2"
	"slices"
	"strings"
	"testing"

	"bilander/api"
	"bilander/batch"
	"bilander/broker"
	"bilander/commit"
	"bilander/producer"
	"bilander/state"
	"bilander/wire"
	"bilander/zone"
)

// plain is a broker without a device: topics, and each part's batches.
type plain struct {
	next   int
	topics []api.Topic
	logs   map[api.Part][]api.Batch
}

func (m *plain) topic(name string) (api.Topic, bool) {
	return state.Topic(api.State{Topics: m.topics}, name)
}

func next(l []api.Batch) int {
	if len(l) == 0 {
		return 0
	}
	return batch.Next(l[len(l)-1])
}

// ask answers as the document says, where a device has room.
func (m *plain) ask(q api.Request) api.Response {
	a := api.Response{Kind: q.Kind}
	t, there := m.topic(q.Topic)
	p := api.Part{Topic: t.ID, Index: q.Index}
	log := m.logs[p]
	switch {
	case q.Kind == api.Create && there:
		a.Err = api.ErrThere
	case q.Kind == api.Create:
		a.Offset = m.next
		m.topics = append(m.topics, api.Topic{ID: m.next, Name: q.Topic, Parts: q.Parts})
		m.next++
	case !there || q.Index >= t.Parts:
		a.Err = api.ErrNone
	case q.Kind == api.Remove:
		m.topics = slices.DeleteFunc(m.topics, func(o api.Topic) bool { return o.ID == t.ID })
		for i := range t.Parts {
			delete(m.logs, api.Part{Topic: t.ID, Index: i})
		}
	case q.Kind == api.Describe:
		a.Offset, a.Next, a.Names = t.ID, t.Parts, []string{t.Name}
		for i := range t.Parts {
			a.Parts = append(a.Parts, 0, next(m.logs[api.Part{Topic: t.ID, Index: i}]))
		}
	case q.Kind == api.Fetch && (q.Offset < 0 || q.Offset > next(log)):
		a.Err = api.ErrOffset
	case q.Kind == api.Fetch:
		for _, b := range log {
			if batch.Next(b) > q.Offset && len(a.Batches) < q.Most {
				b.Records = batch.From(b, q.Offset)
				a.Batches = append(a.Batches, b)
			}
		}
		a.Next = next(log)
	case q.Kind == api.Produce:
		base, double, e := producer.Ask(producer.Build(log), q.Batch)
		if a.Err = e; e != api.OK {
			break
		}
		if a.Offset, a.Double = base, double; !double {
			b := q.Batch
			b.Base, a.Offset = next(log), next(log)
			m.logs[p] = append(log[:len(log):len(log)], b)
		}
		a.Next = next(m.logs[p])
	}
	return a
}

func anyRequest(r *rand.Rand) api.Request {
	q := api.Request{Topic: string(rune('a' + r.IntN(3)))}
	switch r.IntN(10) {
	case 0:
		q.Kind, q.Parts = api.Create, 1+r.IntN(2)
	case 1:
		q.Kind = api.Describe
		if r.IntN(4) == 0 {
			q.Kind = api.Remove
		}
	case 2, 3:
		q.Kind, q.Index, q.Offset, q.Most = api.Fetch, r.IntN(2), r.IntN(12), 1+r.IntN(4)
	default:
		q.Kind, q.Index, q.Flush = api.Produce, r.IntN(2), r.IntN(3) == 0
		q.Batch = api.Batch{Count: 1 + r.IntN(3), Producer: r.IntN(3)}
		if q.Batch.Producer > 0 {
			q.Batch.Seq = r.IntN(4)
		}
		for d := range q.Batch.Count {
			q.Batch.Records = append(q.Batch.Records, api.Record{Delta: d, Value: strings.Repeat("v", r.IntN(60))})
		}
	}
	return q
}

// Theorem 1
func TestAsWithoutADevice(t *testing.T) {
	r := rand.New(rand.NewPCG(24, 1))
	full := 0
	for range 40 {
		_, x := fresh(t, 5+r.IntN(20), 4+r.IntN(8), free)
		m := &plain{next: 1, logs: map[api.Part][]api.Batch{}}
		for range 150 {
			q := anyRequest(r)
			b, e := wire.PutRequest(q)
			if e != api.OK {
				t.Fatal(q, e)
			}
			got, _ := wire.GetResponse(x.Do(b))
			if got.Err == api.ErrFull || got.Err == api.ErrOpen {
				full++
				x.Work()
				continue
			}
			if want := m.ask(q); !wire.SameResponse(got, want) {
				t.Fatal(q, got, want)
			}
		}
	}
	if full == 0 {
		t.Error("never full")
	}
}

// Theorem 2, P24.7
func TestKept(t *testing.T) {
	r := rand.New(rand.NewPCG(24, 2))
	for range 400 {
		d, x := fresh(t, 20, 4+r.IntN(6), free)
		ok(t, x, create("a", 2, false))
		ok(t, x, create("b", 1, false))
		ok(t, x, api.Request{Kind: api.Join, Group: "g", Member: "m"})
		d.Fail(r.IntN(120), r.IntN(2) == 0)
		m := &plain{next: 3, topics: x.State().Topics, logs: map[api.Part][]api.Batch{}}
		safe := map[api.Part]int{}
		var commits []commit.Commit
		under := api.Request{Kind: 255} // what was asked when the power failed
		for range 60 {
			q := anyRequest(r)
			if p, there := x.Part(api.Part{Topic: 1}); there && q.Kind == api.Produce && q.Batch.Count == 2 {
				q = api.Request{Kind: api.Commit, Topic: "a", Group: "g", Member: "m", Gen: 1, Offset: r.IntN(p.Next() + 1)}
			}
			a := x.Ask(q)
			if a.Err == api.ErrDown {
				under = q
				break
			}
			commits = x.Commits()
			if a.Err != api.OK {
				continue
			}
			if q.Kind != api.Commit {
				m.ask(q)
			}
			for _, c := range x.State().Chains {
				p, _ := x.Part(c.Part)
				safe[c.Part] = p.Safe()
			}
		}
		if under.Kind == api.Produce {
			m.ask(under)
		}
		topics := x.State().Topics
		fate := make([]byte, 60)
		for i := range fate {
			fate[i] = byte(r.IntN(256))
		}
		d.Crash(fate)
		y, e := broker.Open(d, free)
		if e != api.OK {
			t.Fatal(e)
		}
		kept(t, y, m, safe, topics)
		if under.Kind != api.Commit && !commit.Same(y.Commits(), commits) {
			t.Fatal(y.Commits(), commits)
		}
	}
}

func kept(t *testing.T, y *broker.Broker, m *plain, safe map[api.Part]int, topics []api.Topic) {
	t.Helper()
	for _, o := range topics { // a removal that was under way may have been done
		if _, there := state.ByID(y.State(), o.ID); !there && len(y.State().Topics) != len(topics)-1 {
			t.Fatal("topics", y.State().Topics, topics)
		}
	}
	for _, c := range y.State().Chains[1:] {
		p, _ := y.Part(c.Part)
		got, had := p.Batches(), m.logs[c.Part]
		if len(got) > len(had) || !slices.EqualFunc(got, had[:len(got)], batch.Same) || p.Next() < safe[c.Part] {
			t.Fatal(c.Part, got, had, safe[c.Part])
		}
	}
}

// Theorem 5, P24.7
func TestWorkEnds(t *testing.T) {
	r := rand.New(rand.NewPCG(24, 5))
	for range 60 {
		c := free
		c.Blocks, c.Time, c.Grace = r.IntN(30), r.IntN(40)-5, r.IntN(20)
		d, x := fresh(t, 30, 4+r.IntN(4), c)
		ok(t, x, create("a", 2, false))
		ok(t, x, create("b", 1, true))
		for i := range 60 {
			b := keyed(string(rune('a' + r.IntN(5))))
			b.Records[0].Time = i
			x.Ask(api.Request{Kind: api.Produce, Topic: string(rune('a' + r.IntN(2))), Index: r.IntN(2), Batch: b})
		}
		x.Tick(60)
		steps, zones := 0, d.Zones()
		for _, c := range x.State().Chains {
			zones += 3 * len(c.Links)
		}
		for {
			did, e := x.Work()
			if e != api.OK {
				t.Fatal(e)
			}
			if !did {
				break
			}
			if steps++; steps > zones {
				t.Fatal("no end")
			}
		}
		for z := 2; z < d.Zones(); z++ {
			if _, owned := state.Owner(x.State(), z); !owned && d.State(z) != zone.Empty {
				t.Fatal("a zone waits", z)
			}
		}
	}
}
