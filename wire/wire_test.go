package wire_test

import (
	"math"
	"slices"
	"strings"
	"testing"

	"bilander/api"
	"bilander/batch"
	"bilander/wire"
)

func one() api.Batch {
	return api.Batch{Count: 2, Producer: 7, Epoch: 1, Seq: 3, Records: []api.Record{{Time: 5, Keyed: true, Key: "k", Value: "v"}, {Delta: 1, Keyed: true, Key: "k", Dead: true}}}
}

// requests lists one of each kind, with all fields that it uses.
func requests() []api.Request {
	return []api.Request{
		{Kind: api.Create, Topic: "t", Parts: 3, Compact: true}, {Kind: api.Remove, Topic: strings.Repeat("t", 255)}, {Kind: api.Join, Member: strings.Repeat("m", 255)}, {Kind: api.Describe, Topic: ""},
		{Kind: api.Produce, Topic: "t", Index: 1, Flush: true, Batch: one()}, {Kind: api.Fetch, Topic: "t", Index: 1, Offset: math.MaxInt, Most: -1},
		{Kind: api.ByTime, Topic: "t", Index: math.MinInt, Time: 9}, {Kind: api.Join, Group: "g", Member: "a"}, {Kind: api.Sync, Topic: "t", Group: "g", Member: "a", Gen: 2},
		{Kind: api.Beat, Group: "g", Member: "a", Gen: 2}, {Kind: api.Leave, Group: strings.Repeat("g", 255), Member: "a"}, {Kind: api.Commit, Topic: "t", Index: 1, Offset: 2, Group: "g", Member: "a", Gen: 3},
		{Kind: api.Committed, Topic: "t", Index: 1, Group: "g"},
	}
}

func responses() []api.Response {
	return []api.Response{
		{}, {Kind: 255, Err: api.ErrForm}, {Kind: api.Produce, Offset: 5, Next: 6, Double: true, Gen: -7}, {Kind: api.Fetch, Batches: []api.Batch{one(), {Base: 9, Count: 1}}},
		{Kind: api.Describe, Parts: []int{0, -1, math.MaxInt}, Names: []string{"", "t", strings.Repeat("n", 255)}},
		{Kind: api.Committed, Err: api.Errno(math.MinInt), Batches: slices.Repeat([]api.Batch{one()}, 64), Parts: make([]int, 64), Names: make([]string, 64)},
	}
}

// P22.1
func TestUses(t *testing.T) {
	for kind, want := range []string{"tpc", "t", "t", "tifb", "tiom", "tiw", "gk", "tgkn", "gkn", "gk", "tiogkn", "tig", "", ""} {
		if s := wire.Uses(uint8(kind)); s != want {
			t.Error(kind, s)
		}
	}
	if wire.Uses(255) != "" {
		t.Error("no kind")
	}
}

// P22.1
func TestPutRequest(t *testing.T) {
	bytes, _ := batch.Put(one())
	for want, q := range map[string]api.Request{
		"\x08\x02g\x02a\x04":                            {Kind: api.Beat, Group: "g", Member: "a", Gen: 2},
		"\x00\x02t\x06\x01":                             {Kind: api.Create, Topic: "t", Parts: 3, Compact: true},
		"\x07\x02t\x02g\x02a\x04":                       {Kind: api.Sync, Topic: "t", Group: "g", Member: "a", Gen: 2},
		"\x0a\x02t\x02\x04\x02g\x02a\x06":               {Kind: api.Commit, Topic: "t", Index: 1, Offset: 2, Group: "g", Member: "a", Gen: 3},
		"\x03\x02t\x02\x01\x24" + string(bytes):         {Kind: api.Produce, Topic: "t", Index: 1, Flush: true, Batch: one()},
		"\x03\x02t\x02\x00\x0c\x00\x02\x00\x00\x00\x00": {Kind: api.Produce, Topic: "t", Index: 1, Batch: api.Batch{Count: 1}},
		"\x04\x02t\x02\x04\x06":                         {Kind: api.Fetch, Topic: "t", Index: 1, Offset: 2, Most: 3},
		"\x05\x02t\x02\x04":                             {Kind: api.ByTime, Topic: "t", Index: 1, Time: 2},
		"\x0b\x02t\x02\x02g":                            {Kind: api.Committed, Topic: "t", Index: 1, Group: "g"},
	} {
		if b, e := wire.PutRequest(q); string(b) != want || e != api.OK {
			t.Errorf("%x %v", b, e)
		}
	}
}

// P22.1
func TestPutRequestErrors(t *testing.T) {
	based, long := one(), one()
	based.Base = 1
	long.Count, long.Base = 33, 1
	for i, c := range []struct {
		q api.Request
		e api.Errno
	}{
		{api.Request{Kind: 12, Index: 1}, api.ErrKind}, {api.Request{Kind: 255}, api.ErrKind},
		{api.Request{Kind: api.Join, Topic: strings.Repeat("t", 256)}, api.ErrForm}, {api.Request{Kind: api.Create, Topic: strings.Repeat("t", 256)}, api.ErrLong},
		{api.Request{Kind: api.Leave, Group: strings.Repeat("t", 256)}, api.ErrLong}, {api.Request{Kind: api.Beat, Member: strings.Repeat("t", 256)}, api.ErrLong},
		{api.Request{Kind: api.Produce}, api.ErrRange}, {api.Request{Kind: api.Produce, Batch: long}, api.ErrRange}, {api.Request{Kind: api.Produce, Batch: based}, api.ErrForm},
		{api.Request{Kind: api.Produce, Topic: strings.Repeat("t", 256)}, api.ErrLong}, {api.Request{Kind: api.Fetch, Batch: based}, api.ErrForm},
	} {
		if b, e := wire.PutRequest(c.q); b != nil || e != c.e {
			t.Error(i, e)
		}
	}
	all := api.Request{Topic: "t", Index: 1, Parts: 1, Compact: true, Flush: true, Offset: 1, Most: 1, Time: 1, Group: "g", Member: "m", Gen: 1, Batch: one()}
	for i, clear := range []func(*api.Request){
		func(q *api.Request) { q.Topic = "" }, func(q *api.Request) { q.Index = 0 }, func(q *api.Request) { q.Parts = 0 }, func(q *api.Request) { q.Compact = false }, func(q *api.Request) { q.Flush = false }, func(q *api.Request) { q.Offset = 0 },
		func(q *api.Request) { q.Most = 0 }, func(q *api.Request) { q.Time = 0 }, func(q *api.Request) { q.Group = "" }, func(q *api.Request) { q.Member = "" }, func(q *api.Request) { q.Gen = 0 }, func(q *api.Request) { q.Batch = api.Batch{} },
	} {
		for kind := range uint8(12) {
			q := all
			q.Kind = kind
			clear(&q)
			if _, e := wire.PutRequest(q); e != api.ErrForm {
				t.Error(i, kind, e)
			}
		}
	}
}

// P22.1
func TestGetRequestErrors(t *testing.T) {
	for _, q := range requests() {
		b, _ := wire.PutRequest(q)
		for i := range b {
			if x, e := wire.GetRequest(b[:i]); e != api.ErrForm || !wire.SameRequest(x, api.Request{}) {
				t.Errorf("%x %v", b[:i], e)
			}
		}
		if _, e := wire.GetRequest(append(b, 0)); e != api.ErrForm {
			t.Errorf("%x %v", b, e)
		}
	}
	for _, b := range []string{"\x0c", "\xff", "\x00\x02t\x06\x02", "\x01\x82\x00t", "\x01\x01", "\x01\x80\x04" + strings.Repeat("t", 256), "\x03\x02t\x02\x00\x0c\x02\x02\x00\x00\x00\x00", "\x03\x02t\x02\x00\x00"} {
		if x, e := wire.GetRequest([]byte(b)); e != api.ErrForm || !wire.SameRequest(x, api.Request{}) {
			t.Errorf("%x %v", b, e)
		}
	}
}

// P22.2
func TestPutResponse(t *testing.T) {
	for want, a := range map[string]api.Response{
		"\x00\x00\x00\x00\x00\x00\x00\x00\x00":                             {},
		"\xff\x08\x02\x04\x06\x01\x00\x00\x00":                             {Kind: 255, Err: 4, Offset: 1, Next: 2, Gen: 3, Double: true},
		"\x02\x00\x00\x00\x00\x00\x00\x04\x02\x03\x02\x02t":                {Kind: 2, Parts: []int{1, -2}, Names: []string{"t"}},
		"\x04\x00\x00\x00\x00\x00\x02\x0c\x06\x02\x00\x00\x00\x00\x00\x00": {Kind: 4, Batches: []api.Batch{{Base: 3, Count: 1}}},
	} {
		if b, e := wire.PutResponse(a); string(b) != want || e != api.OK {
			t.Errorf("%x %v", b, e)
		}
	}
	for i, c := range []struct {
		a api.Response
		e api.Errno
	}{
		{api.Response{Kind: 12, Parts: make([]int, 65)}, api.ErrKind}, {api.Response{Kind: 254}, api.ErrKind}, {api.Response{Parts: make([]int, 65)}, api.ErrLong}, {api.Response{Names: make([]string, 65)}, api.ErrLong},
		{api.Response{Batches: make([]api.Batch, 65)}, api.ErrLong}, {api.Response{Batches: make([]api.Batch, 1), Names: []string{strings.Repeat("n", 256)}}, api.ErrLong},
		{api.Response{Batches: []api.Batch{one(), {Count: 1, Seq: 1}, {}}}, api.ErrForm},
	} {
		if b, e := wire.PutResponse(c.a); b != nil || e != c.e {
			t.Error(i, e)
		}
	}
}

// P22.2
func TestGetResponseErrors(t *testing.T) {
	for _, a := range responses()[:5] {
		b, _ := wire.PutResponse(a)
		for i := range b {
			if x, e := wire.GetResponse(b[:i]); e != api.ErrForm || !wire.SameResponse(x, api.Response{}) {
				t.Errorf("%x %v", b[:i], e)
			}
		}
		if _, e := wire.GetResponse(append(b, 0)); e != api.ErrForm {
			t.Errorf("%x %v", b, e)
		}
	}
	for _, b := range []string{
		"\x0c\x00\x00\x00\x00\x00\x00\x00\x00", "\x00\x00\x00\x00\x00\x02\x00\x00\x00", "\x00\x00\x00\x00\x00\x00\x01\x00\x00", "\x00\x00\x00\x00\x00\x00\x00\x82\x01" + strings.Repeat("\x00", 66), "\x00\x80\x00\x00\x00\x00\x00\x00\x00\x00",
		"\x00\x00\x00\x00\x00\x00\x02\x00\x00\x00", "\x00\x00\x00\x00\x00\x00\x00\xfe\xff\xff\xff\xff\xff\xff\xff\xff\x01\x00",
	} {
		if x, e := wire.GetResponse([]byte(b)); e != api.ErrForm || !wire.SameResponse(x, api.Response{}) {
			t.Errorf("%x %v", b, e)
		}
	}
}

// P22.3
func TestSame(t *testing.T) {
	q := api.Request{}
	for i, change := range []func(*api.Request){
		func(q *api.Request) { q.Kind++ }, func(q *api.Request) { q.Topic = "t" }, func(q *api.Request) { q.Index++ }, func(q *api.Request) { q.Parts++ }, func(q *api.Request) { q.Compact = true }, func(q *api.Request) { q.Flush = true }, func(q *api.Request) { q.Offset++ },
		func(q *api.Request) { q.Most++ }, func(q *api.Request) { q.Time++ }, func(q *api.Request) { q.Group = "g" }, func(q *api.Request) { q.Member = "m" }, func(q *api.Request) { q.Gen++ }, func(q *api.Request) { q.Batch.Seq++ },
	} {
		p := q
		change(&p)
		if wire.SameRequest(p, q) || !wire.SameRequest(p, p) {
			t.Error(i)
		}
	}
	a := api.Response{}
	for i, change := range []func(*api.Response){
		func(a *api.Response) { a.Kind++ }, func(a *api.Response) { a.Err++ }, func(a *api.Response) { a.Offset++ }, func(a *api.Response) { a.Next++ }, func(a *api.Response) { a.Double = true }, func(a *api.Response) { a.Gen++ },
		func(a *api.Response) { a.Batches = []api.Batch{{}} }, func(a *api.Response) { a.Parts = []int{0} }, func(a *api.Response) { a.Names = []string{""} },
	} {
		b := a
		change(&b)
		if wire.SameResponse(a, b) || !wire.SameResponse(b, b) {
			t.Error(i)
		}
	}
	if !wire.SameResponse(a, api.Response{Batches: []api.Batch{}, Parts: []int{}, Names: []string{}}) {
		t.Error("an empty list is none")
	}
}

// P22.4
func TestAsItWas(t *testing.T) {
	for _, q := range requests() {
		b, e := wire.PutRequest(q)
		got, f := wire.GetRequest(b)
		if e != api.OK || f != api.OK || !wire.SameRequest(q, got) {
			t.Error(q, e, f, got)
		}
	}
	for _, a := range responses() {
		b, e := wire.PutResponse(a)
		got, f := wire.GetResponse(b)
		if e != api.OK || f != api.OK || !wire.SameResponse(a, got) {
			t.Error(a, e, f, got)
		}
	}
}
