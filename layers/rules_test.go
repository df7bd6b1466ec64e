package layers_test

import (
	"math"
	"math/rand/v2"
	"reflect"
	"runtime"
	"strconv"
	"strings"
	"testing"

	"bilander/api"
	"bilander/assign"
	"bilander/audit"
	"bilander/batch"
	"bilander/block"
	"bilander/bloom"
	"bilander/broker"
	"bilander/check"
	"bilander/commit"
	"bilander/compact"
	"bilander/console"
	"bilander/dump"
	"bilander/frame"
	"bilander/group"
	"bilander/index"
	"bilander/journal"
	"bilander/lag"
	"bilander/merge"
	"bilander/meta"
	"bilander/mirror"
	"bilander/pack"
	"bilander/part"
	"bilander/producer"
	"bilander/quota"
	"bilander/record"
	"bilander/retain"
	"bilander/route"
	"bilander/script"
	"bilander/seglog"
	"bilander/segment"
	"bilander/state"
	"bilander/varnum"
	"bilander/view"
	"bilander/window"
	"bilander/wire"
	"bilander/world"
	"bilander/zalloc"
	"bilander/zone"
)

// all lists the functions of all layers; methods are found by their objects.
func all() []any {
	return []any{
		varnum.Zigzag, varnum.Zagzig, varnum.Put, varnum.Get, varnum.Fixed, varnum.Unfixed, varnum.New, varnum.Text,
		check.Of, check.More, check.Seal, check.Open, record.Check, record.Put, record.Get, record.Size, record.Same,
		batch.Check, batch.Put, batch.Get, batch.Next, batch.Newest, batch.At, batch.From, batch.Same,
		block.Seal, block.Open, block.Lay, block.Need, block.Join, zone.New, frame.Lay, frame.Need, frame.One, frame.Scan, frame.Same,
		meta.Check, meta.Name, meta.Put, meta.Get, meta.PutAll, meta.GetAll, meta.Same,
		state.Check, state.Step, state.Play, state.Image, state.Topic, state.ByID, state.Chain, state.Owner, state.Zones, state.Same,
		journal.Format, journal.Open, zalloc.Kinds, zalloc.Next, zalloc.Waiting, zalloc.Sweep, zalloc.Room,
		index.New, index.Add, index.Find, index.ByTime, index.Build, index.Same, producer.Ask, producer.Put, producer.Cut, producer.Find, producer.Build, producer.Same,
		segment.Check, segment.Next, segment.Put, segment.Fetch, segment.ByTime, segment.Newest, segment.Need, segment.Blocks, segment.Keys, segment.Sparse, segment.Same,
		seglog.Open, retain.Drop, retain.Old, retain.Start, retain.Total, compact.Last, compact.Keeps, compact.Clean, compact.Count, compact.Dirty, part.Open,
		assign.Range, assign.Of, assign.Sorted, assign.Turns, group.Join, group.Sync, group.Beat, group.Leave, group.Tick, group.Names, group.Find, group.Check, group.Same,
		commit.Check, commit.Put, commit.Get, commit.Gone, commit.Play, commit.Find, commit.Same,
		wire.PutRequest, wire.GetRequest, wire.PutResponse, wire.GetResponse, wire.SameRequest, wire.SameResponse, wire.Uses,
		quota.New, quota.Fill, quota.Take, quota.Wait, quota.Check, broker.Check, broker.Format, broker.Open, audit.Look, audit.Logs, audit.Sound, audit.Settled, audit.Add,
		world.New, script.PutStep, script.GetStep, script.Put, script.Get, script.Play, script.Same,
		console.Parse, console.Told, console.Session, console.Digits, console.Words, lag.Of, lag.Group, lag.Total, lag.Most,
		dump.Line, dump.Batch, dump.Text, dump.Read, dump.Part, dump.Quote, dump.Unquote, mirror.Check, mirror.Step, mirror.Run, mirror.Again, mirror.Same,
		pack.Pack, pack.Unpack, pack.Match, pack.Seal, pack.Open, bloom.New, bloom.Check, bloom.Places, bloom.Add, bloom.Has, bloom.Join, bloom.Full, bloom.Put, bloom.Get, bloom.Same,
		merge.New, merge.Items, merge.All, merge.Less, window.New, window.Check, window.Feed, window.Close, window.Total, window.Put, window.Get, window.Same,
		view.Check, view.Apply, view.Build, view.Get, view.Scan, view.Since, view.Put, view.Read, view.Catch, view.Same,
		route.Of, route.Split, route.Requests, route.Send, route.Join,
	}
}

// caller calls functions with arguments of chance, and with what others answered.
type caller struct {
	r    *rand.Rand
	pool map[reflect.Type][]reflect.Value
}

func (c *caller) number() int {
	edges := []int{0, 1, 2, 3, -1, 7, 8, 31, 32, 33, 64, api.MaxSeq, api.MaxTime, api.MaxTime + 1, api.MaxOffset, api.MaxOffset + 1, math.MaxInt, math.MinInt, 1 << 30, 1 << 20}
	if c.r.IntN(3) == 0 {
		return edges[c.r.IntN(len(edges))]
	}
	return c.r.IntN(6)
}

func (c *caller) text() string {
	words := []string{"", "a", "t", "_offsets", "%-", "k=v", "open", "create t 1 0", "produce t 0 1 0 0 0 5 k=v x!", "batch 0 1 0 0 0 0\n", "batch 0 2 0 0 0 2\nrecord 0 5 k k v\nrecord 1 5 d k\n", "record 0 0 v x", "fetch t 0 0 9\ncommit g a 1 t 0 1\ncrash 1 2", "sync g a 1 t", "crash 1 2", "committed g t 0", "g", strings.Repeat("x", 70), "\xff\x00"}
	return words[c.r.IntN(len(words))]
}

func (c *caller) add(x any) {
	v := reflect.ValueOf(x)
	c.pool[v.Type()] = append(c.pool[v.Type()], v)
}

// begin fills the pool with objects and lists that have something in them.
func (c *caller) begin() {
	conf := api.Config{Time: 5, Blocks: 8, Grace: 1, Patience: 50, Size: 1000, Rate: 1000}
	text := "create t 2 0\ncreate k 1 1\njoin g a\n"
	for i := range 30 {
		n := strconv.Itoa(i)
		text += "tick " + n + "\nproduce t 0 1 7 0 " + n + " " + n + " a=" + strings.Repeat("v", 50) + "\nproduce k 0 0 0 0 0 " + n + " a=" + n + strings.Repeat("v", 40) + " b!\n"
	}
	for range 4 {
		d, _ := zone.New(16, 6)
		b, _ := broker.Format(d, conf)
		w, _ := world.New(24, 6, conf)
		console.Session(w, text)
		p, _ := w.Broker().Part(api.Part{Topic: 1})
		k, _ := w.Broker().Part(api.Part{Topic: 2})
		j, _ := journal.Open(d)
		l, _ := seglog.Open(d, j, api.Part{})
		for _, x := range []any{d, b, w, w.Broker(), p, k, j, l, w.Broker().State(), merge.New([][]api.Batch{p.Batches(), k.Batches()}), p.Batches(), k.Batches()} {
			c.add(x)
		}
	}
	for kind := range uint8(12) {
		c.add(api.Request{Kind: kind, Topic: "t", Parts: 1, Most: 3, Group: "g", Member: "a", Gen: 1, Batch: api.Batch{Count: 1}})
		c.add(world.Step{Kind: kind % 6, Q: api.Request{Kind: kind, Topic: "k", Parts: 1, Most: 3, Group: "g", Member: "a", Gen: 1, Batch: api.Batch{Count: 1}}, N: 3})
		c.add(api.Meta{Kind: kind % 7, Topic: 1, Zone: int(kind%7) / 2, Parts: int(1 - min(kind%7, 1)), Name: strings.Repeat("x", int(1-min(kind%7, 1)))})
	}
	c.add(mirror.Mirror{Topic: "t", Producer: 9})
}

// value makes a value of a type, or takes one that was answered.
func (c *caller) value(t reflect.Type) reflect.Value {
	if l := c.pool[t]; len(l) > 0 && c.r.IntN(3) > 0 {
		return clone(l[c.r.IntN(len(l))])
	}
	v := reflect.New(t).Elem()
	switch t.Kind() {
	case reflect.Bool:
		v.SetBool(c.r.IntN(2) == 0)
	case reflect.Int, reflect.Int64:
		v.SetInt(int64(c.number()))
	case reflect.Uint8:
		v.SetUint(uint64(c.r.IntN(14)))
	case reflect.Uint64:
		v.SetUint(uint64(c.number()))
	case reflect.String:
		v.SetString(c.text())
	case reflect.Slice:
		n := c.r.IntN(4)
		v.Set(reflect.MakeSlice(t, n, n+c.r.IntN(3)))
		for i := range n {
			v.Index(i).Set(c.value(t.Elem()))
		}
	case reflect.Struct:
		if c.r.IntN(6) > 0 {
			for i := range t.NumField() {
				if t.Field(i).IsExported() && c.r.IntN(3) > 0 {
					v.Field(i).Set(c.value(t.Field(i).Type))
				}
			}
		}
	}
	return v
}

// clone makes new memory of all lists; objects stay as they are.
func clone(v reflect.Value) reflect.Value {
	n := reflect.New(v.Type()).Elem()
	n.Set(v)
	switch v.Kind() {
	case reflect.Slice:
		if !v.IsNil() {
			n.Set(reflect.MakeSlice(v.Type(), v.Len(), v.Cap()))
			for i := range v.Len() {
				n.Index(i).Set(clone(v.Index(i)))
			}
		}
	case reflect.Struct:
		for i := range v.NumField() {
			if v.Type().Field(i).IsExported() {
				n.Field(i).Set(clone(v.Field(i)))
			}
		}
	}
	return n
}

// scramble changes all lists, and their spare room.
func scramble(v reflect.Value) {
	switch v.Kind() {
	case reflect.Slice:
		w := v.Slice(0, v.Cap())
		for i := range w.Len() {
			scramble(w.Index(i))
			if k := w.Index(i); k.Kind() == reflect.Uint8 {
				k.SetUint(k.Uint() ^ 0xa5)
			} else if k.Kind() != reflect.Slice && k.Kind() != reflect.Pointer {
				k.SetZero()
			}
		}
	case reflect.Struct:
		for i := range v.NumField() {
			if v.Type().Field(i).IsExported() {
				scramble(v.Field(i))
			}
		}
	}
}

func same(a, b []reflect.Value) bool {
	for i := range a {
		if a[i].Kind() == reflect.Pointer { // an object may change
			continue
		}
		if !reflect.DeepEqual(a[i].Interface(), b[i].Interface()) {
			return false
		}
	}
	return true
}

// call calls a function, and looks at what became of its arguments; a pure one has no object.
func (c *caller) call(t *testing.T, name string, f reflect.Value, pure bool) {
	t.Helper()
	var args, before []reflect.Value
	for i := range f.Type().NumIn() {
		v := c.value(f.Type().In(i))
		pure = pure && v.Kind() != reflect.Pointer
		args, before = append(args, v), append(before, clone(v))
	}
	defer func() {
		if x := recover(); x != nil {
			t.Fatalf("%s panics: %v of %v", name, x, before)
		}
	}()
	out := f.Call(args)
	if !same(args, before) {
		t.Fatalf("%s changes an argument: %v to %v", name, before, args)
	}
	var kept []reflect.Value
	for _, v := range out {
		kept = append(kept, clone(v))
		x := reflect.New(v.Type()).Elem()
		x.Set(v)
		scramble(x)
	}
	if !same(args, before) {
		t.Fatalf("%s: an answer shares memory with an argument: %v to %v", name, before, args)
	}
	if pure {
		if again := f.Call(before); !same(again, kept) {
			t.Fatalf("%s answers %v and %v", name, kept, again)
		}
	}
	for _, v := range kept {
		l := c.pool[v.Type()]
		if k := v.Kind(); k == reflect.Bool || k == reflect.Int || len(l) > 0 && k == reflect.Pointer && v.IsNil() {
			continue
		}
		if len(l) < 40 {
			c.pool[v.Type()] = append(l, v)
		} else {
			l[c.r.IntN(len(l))] = v
		}
	}
}

// Rules 1, 3 and 4: no call panics; arguments stay as they are; answers are new memory, and the same again.
func TestRules(t *testing.T) {
	for seed := range uint64(12) {
		c := &caller{r: rand.New(rand.NewPCG(seed, 1)), pool: map[reflect.Type][]reflect.Value{}}
		c.begin()
		fs := all()
		for range 30000 {
			f := reflect.ValueOf(fs[c.r.IntN(len(fs))])
			c.call(t, runtime.FuncForPC(f.Pointer()).Name(), f, true)
			for kind, l := range c.pool {
				if kind.Kind() != reflect.Pointer || c.r.IntN(8) > 0 {
					continue
				}
				v := l[c.r.IntN(len(l))]
				if kind.NumMethod() > 0 {
					i := c.r.IntN(kind.NumMethod())
					c.call(t, kind.String()+"."+kind.Method(i).Name, v.Method(i), false)
				}
			}
		}
	}
}

// Rule 1: a method of a nil object does not panic.
func TestNilObjects(t *testing.T) {
	c := &caller{r: rand.New(rand.NewPCG(1, 2)), pool: map[reflect.Type][]reflect.Value{}}
	for _, x := range []any{(*varnum.Reader)(nil), (*zone.Dev)(nil), (*journal.Journal)(nil), (*seglog.Log)(nil), (*part.Part)(nil), (*broker.Broker)(nil), (*world.World)(nil), (*merge.Merger)(nil)} {
		v := reflect.ValueOf(x)
		for i := range v.NumMethod() {
			for range 20 {
				c.call(t, v.Type().String()+"."+v.Type().Method(i).Name, v.Method(i), false)
			}
		}
	}
}
