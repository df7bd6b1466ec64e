package dump_test

import (
	"math/rand/v2"
	"slices"
	"strconv"
	"strings"
	"testing"

	"bilander/api"
	"bilander/batch"
	"bilander/broker"
	"bilander/dump"
	"bilander/zone"
)

// P30.1
func TestQuote(t *testing.T) {
	for s, want := range map[string]string{"": "%-", "a b%": "a%20b%25", "!~": "!~", "\x00\x7f\xff\n": "%00%7f%ff%0a", "-": "-", "%-": "%25-"} {
		if q := dump.Quote(s); q != want {
			t.Errorf("%q: %q", s, q)
		}
	}
	for c := range 256 {
		s := string([]byte{byte(c), 'x'})
		if got, ok := dump.Unquote(dump.Quote(s)); got != s || !ok {
			t.Errorf("%q: %q", s, got)
		}
	}
	for _, s := range []string{"", "%", "%2", "%2g", "%7F", "%41", "%-a", "a%-", "a b", "é", "\x00", "%%", "% 1"} {
		if got, ok := dump.Unquote(s); got != "" || ok {
			t.Errorf("%q: %q", s, got)
		}
	}
	if got, ok := dump.Unquote("%-"); got != "" || !ok {
		t.Error("nothing")
	}
}

func sample() api.Batch {
	return api.Batch{Base: 5, Count: 9, Producer: 7, Epoch: 2, Seq: 3, Records: []api.Record{{Delta: 1, Time: 9, Keyed: true, Key: "k", Value: "v w"}, {Delta: 2, Value: "x"}, {Delta: 3, Keyed: true}, {Delta: 8, Time: 4, Keyed: true, Key: "k", Dead: true}}}
}

const sampleText = "batch 5 9 7 2 3 4\nrecord 1 9 k k v%20w\nrecord 2 0 v x\nrecord 3 0 k %- %-\nrecord 8 4 d k\n"

// P30.2
func TestText(t *testing.T) {
	for i, want := range strings.Split(sampleText, "\n")[1:5] {
		if s := dump.Line(sample(), i); s != want {
			t.Error(i, s)
		}
	}
	if dump.Line(sample(), -1) != "" || dump.Line(sample(), 4) != "" || dump.Line(api.Batch{Records: []api.Record{{Delta: -3, Time: -4}}}, 0) != "record -3 -4 v %-" {
		t.Error("line")
	}
	if l, e := dump.Batch(sample()); e != api.OK || strings.Join(l, "\n")+"\n" != sampleText {
		t.Error(l, e)
	}
	if l, e := dump.Batch(api.Batch{Count: 1, Seq: 1}); l != nil || e != api.ErrForm {
		t.Error(e)
	}
	if s, e := dump.Text([]api.Batch{sample(), {Count: 1}, sample()}); e != api.OK || s != sampleText+"batch 0 1 0 0 0 0\n"+sampleText {
		t.Error(s, e)
	}
	if s, e := dump.Text([]api.Batch{sample(), {}, {Count: 1, Seq: 1}}); s != "" || e != api.ErrRange {
		t.Error(e)
	}
	many := slices.Repeat([]api.Batch{{Count: 1}}, 1000)
	if s, e := dump.Text(many); e != api.OK || strings.Count(s, "\n") != 1000 {
		t.Error(e)
	}
	if s, e := dump.Text(append(many, api.Batch{})); s != "" || e != api.ErrLong {
		t.Error(e)
	}
	if s, e := dump.Text(nil); s != "" || e != api.OK {
		t.Error(e)
	}
}

// P30.3
func TestReadErrors(t *testing.T) {
	one := "batch 0 1 0 0 0 0\n"
	long := "record %d 0 v " + strings.Repeat("x", 512) + "\n"
	big := "batch 0 32 0 0 0 16\n"
	for i := range 15 {
		big += strings.Replace(long, "%d", strconv.Itoa(i), 1)
	}
	for i, c := range []struct {
		text string
		at   int
	}{
		{"x", 1}, {"\n", 1}, {"batch 0 1 0 0 0 0", 1}, {one + "\n", 2}, {one + one[:9], 2}, {one + "\n" + one, 2}, {one + "record 0 0 v x\n", 2}, {"record 0 0 v x\n", 1},
		{"batch 0 1 0 0 0 0 \n", 1}, {" " + one, 1}, {"batch 00 1 0 0 0 0\n", 1}, {"batch +0 1 0 0 0 0\n", 1}, {"batch -0 1 0 0 0 0\n", 1}, {"batch 0 0 0 0 0 0\n", 1}, {"batch 0 33 0 0 0 0\n", 1}, {"batch -1 1 0 0 0 0\n", 1},
		{"batch 0 1 0 0 1 0\n", 1}, {"batch 0 1 0 0 0 2\n", 1}, {"batch 0 1 0 0 0 -1\n", 1}, {"batch 99999999999999999999 1 0 0 0 0\n", 1}, {"batch 4611686018427387903 1 0 0 0 0\n", 1}, {"batch 0 1 0 0 0\n", 1}, {"batch 0 1 0 0 0 0\r\n", 1},
		{"batch 0 1 0 0 0 1\n", 2}, {"batch 0 1 0 0 0 1\nrecord 0 0 v x", 2}, {"batch 0 1 0 0 0 1\n" + one, 2}, {"batch 0 1 0 0 0 1\nrecord 1 0 v x\n", 2}, {"batch 0 1 0 0 0 1\nrecord 0 -1 v x\n", 2}, {"batch 0 1 0 0 0 1\nrecord 0 0 v x y\n", 2},
		{"batch 0 1 0 0 0 1\nrecord 0 0 v \n", 2}, {"batch 0 1 0 0 0 1\nrecord 0 0 w x\n", 2}, {"batch 0 1 0 0 0 1\nrecord 0 0 k x\n", 2}, {"batch 0 1 0 0 0 1\nrecord 0 0 d x y\n", 2}, {"batch 0 1 0 0 0 1\nrecord 0 0 k x y z\n", 2}, {"batch 0 1 0 0 0 1\nrecord 0 0 v %41\n", 2},
		{"batch 0 1 0 0 0 1\nrecord 0 0 d " + strings.Repeat("k", 65) + "\n", 2}, {"batch 0 1 0 0 0 1\nrecord 0 0 v " + strings.Repeat("k", 513) + "\n", 2},
		{"batch 0 3 0 0 0 2\nrecord 0 0 v x\n", 3}, {"batch 0 3 0 0 0 2\nrecord 2 0 v x\nrecord 3 0 v x\n", 2}, {"batch 0 3 0 0 0 2\nrecord 1 0 v x\nrecord 1 0 v x\n", 3}, {"batch 0 3 0 0 0 3\nrecord 1 0 v x\n", 2},
		{sampleText + "batch 0 3 0 0 0 2\n", 7}, {big + strings.Replace(long, "%d", "15", 1), 17}, {strings.Repeat(one, 1001), 1001}, {strings.Repeat(one, 1000) + "x", 1001},
	} {
		l, at, e := dump.Read(c.text)
		if l != nil || at != c.at || e != api.ErrForm {
			t.Errorf("%d %.40q: %d %v", i, c.text, at, e)
		}
	}
	if l, at, e := dump.Read(strings.Repeat("x", 65537)); l != nil || at != 0 || e != api.ErrLong {
		t.Error(at, e)
	}
	if _, at, e := dump.Read(strings.Repeat("x", 65536)); at != 1 || e != api.ErrForm {
		t.Error(at, e)
	}
	for text, n := range map[string]int{"": 0, one: 1, strings.Repeat(one, 1000): 1000, big + "record 20 0 v x\n": 1} {
		if l, at, e := dump.Read(text); len(l) != n || at != 0 || e != api.OK {
			t.Error(len(l), at, e)
		}
	}
}

// P30.3: the shortest records that may still come have no room.
func TestNoRoomForMore(t *testing.T) {
	text := "batch 0 32 0 0 0 32\n"
	for i := range 15 {
		text += "record " + strconv.Itoa(i) + " 0 v " + strings.Repeat("x", 512) + "\n"
	}
	// 7 bytes of the batch, 15 records of 517, and 17 to come of at least 4: 370 bytes are left for the one behind, of which 5 are no value's
	behind := func(n int) string { return text + "record 15 0 v " + strings.Repeat("x", n) + "\n" }
	room := api.MaxFrame - 6 - 15*517 - 16*4 - 5
	if _, at, _ := dump.Read(behind(room)); at != 18 {
		t.Error(at)
	}
	if _, at, _ := dump.Read(behind(room + 1)); at != 17 {
		t.Error(at)
	}
	full := behind(room)
	for i := 16; i < 32; i++ {
		full += "record " + strconv.Itoa(i) + " 0 v %-\n"
	}
	if l, _, e := dump.Read(full); len(l) != 1 || e != api.OK {
		t.Error(e)
	}
}

// P30.4
func TestPart(t *testing.T) {
	if s, e := dump.Part(nil); s != "" || e != api.OK {
		t.Error(e)
	}
	d, _ := zone.New(8, 8)
	x, _ := broker.Format(d, api.Config{Size: 99})
	x.Ask(api.Request{Kind: api.Create, Topic: "t", Parts: 1})
	x.Ask(api.Request{Kind: api.Produce, Topic: "t", Batch: api.Batch{Count: 2, Records: []api.Record{{Delta: 1, Time: 3, Value: "v"}}}})
	x.Ask(api.Request{Kind: api.Produce, Topic: "t", Batch: api.Batch{Count: 1}})
	p, _ := x.Part(api.Part{Topic: 1})
	if s, e := dump.Part(p); s != "batch 0 2 0 0 0 1\nrecord 1 3 v v\nbatch 2 1 0 0 0 0\n" || e != api.OK {
		t.Error(s, e)
	}
}

// P30.5
func TestAsItWas(t *testing.T) {
	r := rand.New(rand.NewPCG(30, 30))
	for range 300 {
		var l []api.Batch
		for range r.IntN(6) {
			b := api.Batch{Base: r.IntN(1 << 40), Count: 1 + r.IntN(32), Producer: r.IntN(3)}
			if b.Producer > 0 {
				b.Seq, b.Epoch = r.IntN(1<<31), r.IntN(1<<15)
			}
			for d := range b.Count {
				x := api.Record{Delta: d, Time: r.IntN(1 << 40)}
				text := make([]byte, r.IntN(20))
				for i := range text {
					text[i] = byte(r.IntN(256))
				}
				switch r.IntN(6) {
				case 0:
					x.Value = string(text)
				case 1:
					x.Keyed, x.Key, x.Value = true, string(text), "v"
				case 2:
					x.Keyed, x.Dead, x.Key = true, true, string(text)
				default:
					continue
				}
				b.Records = append(b.Records, x)
			}
			l = append(l, b)
		}
		s, e := dump.Text(l)
		got, at, f := dump.Read(s)
		if e != api.OK || f != api.OK || at != 0 || !slices.EqualFunc(got, l, batch.Same) {
			t.Fatal(l, e, f, at)
		}
		if s == "" {
			continue
		}
		i := r.IntN(len(s)) // with a byte changed it is another text, or none from that line on at the earliest
		c := []byte(s)
		c[i] ^= 1
		got, at, f = dump.Read(string(c))
		again, _ := dump.Text(got)
		if f == api.OK && again != string(c) || f != api.OK && (f != api.ErrForm || at < 1+strings.Count(s[:i], "\n")) {
			t.Fatal(string(c), at, f)
		}
	}
}
