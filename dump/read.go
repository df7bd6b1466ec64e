package dump

import (
	"strconv"
	"strings"

	"bilander/api"
	"bilander/batch"
)

// reader has the batches that were read, and the last one as far as it was.
type reader struct {
	done []api.Batch
	now  api.Batch
	left int // records that the last one has still to come
}

// mayBe tells whether a batch may be that begins so and has some more records: the shortest ones that there are.
func mayBe(b api.Batch, more int) bool {
	delta := 0
	if n := len(b.Records); n > 0 {
		delta = b.Records[n-1].Delta + 1
	}
	records := append([]api.Record(nil), b.Records...)
	for i := range more {
		records = append(records, api.Record{Delta: delta + i})
	}
	b.Records = records
	return batch.Check(b) == api.OK
}

// number reads a word, whose digits are looked at when the line is laid again.
func number(s string) int {
	n, err := strconv.Atoi(s)
	if err != nil {
		return -1
	}
	return n
}

// begin reads a batch's first line.
func (r *reader) begin(s string) bool {
	words := strings.Split(s, " ")
	if len(words) != 7 || len(r.done) >= mostBatches {
		return false
	}
	b := api.Batch{Base: number(words[1]), Count: number(words[2]), Producer: number(words[3]), Epoch: number(words[4]), Seq: number(words[5])}
	n := number(words[6])
	if n < 0 || n > api.MaxBatch || header(b, n) != s || !mayBe(b, n) {
		return false
	}
	r.now, r.left = b, n
	return true
}

// record reads a record's line.
func record(s string) (api.Record, bool) {
	words := strings.Split(s, " ")
	if len(words) < 5 || len(words) > 6 {
		return api.Record{}, false
	}
	x := api.Record{Delta: number(words[1]), Time: number(words[2])}
	first, good := Unquote(words[4])
	switch words[3] {
	case "v":
		x.Value = first
	case "d":
		x.Keyed, x.Dead, x.Key = true, true, first
	case "k":
		x.Keyed, x.Key = true, first
		value, whole := Unquote(words[len(words)-1])
		x.Value = value
		good = good && whole
	}
	return x, good && recordLine(x) == s
}

// goOn reads a further line of a batch.
func (r *reader) goOn(s string) bool {
	x, good := record(s)
	if !good {
		return false
	}
	r.now.Records = append(r.now.Records, x)
	r.left--
	return mayBe(r.now, r.left)
}

// take reads a line.
func (r *reader) take(s string) bool {
	good := false
	if r.left > 0 {
		good = r.goOn(s)
	} else {
		good = r.begin(s)
	}
	if good && r.left == 0 {
		r.done = append(r.done, r.now)
	}
	return good
}

// Read reads batches' text.
func Read(text string) ([]api.Batch, int, api.Errno) {
	if len(text) > api.MaxScript {
		return nil, 0, api.ErrLong
	}
	r := &reader{}
	n := 1
	for text != "" {
		s, rest, ended := strings.Cut(text, "\n")
		if !ended || !r.take(s) {
			return nil, n, api.ErrForm
		}
		text = rest
		n++
	}
	if r.left > 0 {
		return nil, n, api.ErrForm
	}
	return r.done, 0, api.OK
}
