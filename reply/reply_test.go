package reply_test

import (
	"math"
	"reflect"
	"slices"
	"testing"

	"posthouse/api"
	"posthouse/reply"
)

// high is the highest 32-bit number.
const high = 1<<32 - 1

// procs is how many procedures there are, from 0 on.
const procs = 22

// layout is the fields of each procedure's results, by their letters.
func layout(proc int, fine bool) string {
	if fine {
		return [procs]string{"", "a", "w", "haD", "ax", "ad", "aed", "wcsv", "haw", "haw", "haw", "haw", "w", "w", "wW", "aW", "avle", "avpe", "an", "an", "an", "wv"}[proc]
	}
	return [procs]string{"", "", "w", "D", "a", "a", "a", "w", "w", "w", "w", "w", "w", "w", "wW", "aW", "a", "a", "a", "a", "a", "w"}[proc]
}

// strangers is procedures that there are not.
func strangers() []int {
	return []int{-1, -2, -22, math.MinInt, 22, 23, 255, 256, 1 << 16, high, high + 1, high + 2, math.MaxInt}
}

// failures is all statuses but StOK.
func failures() []api.Status {
	return []api.Status{1, 2, 13, 17, 20, 21, 22, 27, 28, 31, 63, 66, 69, 70, 10001, 10002, 10003, 10005, 10007}
}

// noStatuses is numbers that are no status: all others near those that are, and some far away.
func noStatuses() []api.Status {
	known := append(failures(), api.StOK)
	list := []api.Status{high - 1, high, high + 1, high + 1 + 70, math.MaxInt, -70, -10001, math.MinInt, math.MinInt + 1, 10000 << 8, 1 << 31}
	for n := api.Status(-3); n < 10300; n++ {
		if (n < 300 || n > 9900) && !slices.Contains(known, n) {
			list = append(list, n)
		}
	}
	return list
}

// P8.1: the statuses of api are known, and nothing else is.
func TestKnown(t *testing.T) {
	for _, s := range append(failures(), 0) {
		if !reply.Known(s) {
			t.Errorf("Known(%d) = false", s)
		}
	}
	for _, s := range noStatuses() {
		if reply.Known(s) {
			t.Errorf("Known(%d) = true", s)
		}
	}
}

// P8.1: the fields of each procedure's results, with StOK and without, and none of what is no procedure.
func TestFields(t *testing.T) {
	for _, fine := range []bool{true, false} {
		for proc := range procs {
			if got := reply.Fields(proc, fine); got != layout(proc, fine) {
				t.Errorf("Fields(%d, %t) = %q, want %q", proc, fine, got, layout(proc, fine))
			}
		}
		for _, proc := range strangers() {
			if got := reply.Fields(proc, fine); got != "" {
				t.Errorf("Fields(%d, %t) = %q", proc, fine, got)
			}
		}
	}
}

// given is a procedure's results and their bytes.
type given struct {
	proc  int
	reply api.Reply
	bytes string
}

// equal tells by means of its own whether results are equal.
func equal(a, b api.Reply) bool {
	return reflect.DeepEqual(plain(a), plain(b))
}

// plain is results whose empty lists are nil.
func plain(r api.Reply) api.Reply {
	if len(r.Entries) == 0 {
		r.Entries = nil
	}
	if len(r.Nums) == 0 {
		r.Nums = nil
	}
	return r
}

// twin is the same results in memory of their own, to be held against those that a call was given.
func twin(r api.Reply) api.Reply {
	r.Entries = append([]api.Entry(nil), r.Entries...)
	r.Nums = append([]int(nil), r.Nums...)
	return r
}

// holds tells whether results are valid, have these bytes, and are what these bytes are read as.
func holds(t *testing.T, name string, g given) {
	t.Helper()
	was := twin(g.reply)
	if err := reply.Check(g.proc, g.reply); err != api.OK {
		t.Errorf("%s: Check(%d, %+v) = %d", name, g.proc, g.reply, err)
	}
	if got, err := reply.Put(g.proc, g.reply); got != g.bytes || err != api.OK {
		t.Errorf("%s: Put(%d, %+v) = %x, error %d, want %x", name, g.proc, g.reply, got, err, g.bytes)
	}
	if got, err := reply.Get(g.proc, g.bytes); !equal(got, g.reply) || err != api.OK {
		t.Errorf("%s: Get(%d, %x) = %+v, error %d, want %+v", name, g.proc, g.bytes, got, err, g.reply)
	}
	if !equal(was, g.reply) {
		t.Errorf("%s: of %d, %+v became %+v", name, g.proc, was, g.reply)
	}
}

// refused tells whether results are refused with that error, and have no bytes.
func refused(t *testing.T, name string, proc int, r api.Reply, want api.Errno) {
	t.Helper()
	was := twin(r)
	if err := reply.Check(proc, r); err != want {
		t.Errorf("%s, procedure %d, status %d: Check = %d, want %d", name, proc, r.Status, err, want)
	}
	if got, err := reply.Put(proc, r); got != "" || err != want {
		t.Errorf("%s, procedure %d, status %d: Put = %d bytes, error %d, want %d", name, proc, r.Status, len(got), err, want)
	}
	if !equal(was, r) {
		t.Errorf("%s, procedure %d, status %d: what was given is another one", name, proc, r.Status)
	}
}

// fails tells whether bytes are refused with that error, and zero results are answered.
func fails(t *testing.T, name string, proc int, bytes string, want api.Errno) {
	t.Helper()
	if got, err := reply.Get(proc, bytes); !equal(got, api.Reply{}) || err != want {
		t.Errorf("%s: Get(%d, %x) = %+v, error %d, want %d", name, proc, bytes, got, err, want)
	}
}

// P8.2, P8.3, P8.5: results of each procedure, with StOK and with another status, and their bytes.
func TestOrdinary(t *testing.T) {
	for i, g := range ordinary() {
		if g.proc != i/2 || (g.reply.Status == api.StOK) != (i%2 == 0) {
			t.Errorf("results of %d with the status %d stand in the place %d", g.proc, g.reply.Status, i)
		}
		holds(t, "ordinary", g)
	}
	for _, g := range empties() {
		holds(t, "all zero", g)
	}
}

// P8.2, P8.3, P8.5: the document's example.
func TestExample(t *testing.T) {
	holds(t, "GETATTR with StStale", given{api.ProcGetattr, api.Reply{Status: api.StStale}, "\x00\x00\x00\x46"})
}

// P8.2, P8.3, P8.5: each status, with each procedure.
func TestStatuses(t *testing.T) {
	for _, g := range append(ordinary(), empties()...) {
		if g.reply.Status == api.StOK {
			continue
		}
		for _, s := range failures() {
			r := g.reply
			r.Status = s
			holds(t, "each status", given{g.proc, r, bytes32(int(s)) + g.bytes[4:]})
		}
	}
}

// P8.2, P8.3: numbers that are no status, with each procedure, and bytes that are otherwise right.
func TestNoStatuses(t *testing.T) {
	for _, g := range append(ordinary(), empties()...) {
		for _, s := range noStatuses() {
			r := g.reply
			r.Status = s
			refused(t, "no status", g.proc, r, api.ErrForm)
			if s >= 0 && s <= high {
				fails(t, "no status", g.proc, bytes32(int(s))+g.bytes[4:], api.ErrForm)
			}
		}
	}
}

// P8.2, P8.3: what is no procedure is told first, whatever else is wrong, and with all of it right.
func TestStrangers(t *testing.T) {
	replies := []api.Reply{{}, {Status: 3}, {Status: -1}, {Access: -1}, {Fh: string(make([]byte, 65))}, {Obj: api.Post{Attr: api.Attr{Type: 1}}}, {Nums: make([]int, 17)}, {Nums: []int{}}, {Entries: make([]api.Entry, 65)}}
	texts := []string{"", "\x00", no, no + no, no + yes, yes, yes + no, "\x00\x00\x00\x03", "\xff\xff\xff\xff"}
	for _, g := range ordinary() {
		replies, texts = append(replies, g.reply), append(texts, g.bytes)
	}
	for _, proc := range strangers() {
		for _, r := range replies {
			refused(t, "no such procedure", proc, r, api.ErrProc)
		}
		for _, bytes := range texts {
			fails(t, "no such procedure", proc, bytes, api.ErrProc)
		}
	}
}
