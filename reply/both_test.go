package reply_test

import (
	"math"
	"math/rand"
	"slices"
	"strings"
	"testing"

	"posthouse/api"
	"posthouse/reply"
)

// validity tells by the document's words whether results are valid.
func validity(proc int, r api.Reply) api.Errno {
	if proc < 0 || proc >= procs {
		return api.ErrProc
	}
	if r.Status != api.StOK && !slices.Contains(failures(), r.Status) {
		return api.ErrForm
	}
	has := func(letters string) bool {
		return strings.ContainsAny(layout(proc, r.Status == api.StOK), letters)
	}
	for _, good := range []bool{
		len(r.Fh) <= 64 && (has("h") || r.Fh == ""),
		goodPost(r.Obj) && (has("a") || r.Obj == api.Post{}),
		goodPost(r.Dir) && (has("D") || r.Dir == api.Post{}),
		goodWcc(r.Wcc) && (has("w") || r.Wcc == api.Wcc{}),
		goodWcc(r.Wcc2) && (has("W") || r.Wcc2 == api.Wcc{}),
		narrow(r.Access) && (has("x") || r.Access == 0),
		narrow(r.Count) && (has("c") || r.Count == 0),
		has("e") || !r.Eof,
		len(r.Data) <= 256 && (has("d") || r.Data == ""),
		narrow(r.Stable) && (has("s") || r.Stable == 0),
		r.Verf >= 0 && (has("v") || r.Verf == 0),
		len(r.Entries) <= 64 && (has("lp") || len(r.Entries) == 0),
		!slices.ContainsFunc(r.Entries, func(e api.Entry) bool { return !goodEntry(e, has("p")) }),
		len(r.Nums) <= 16 && (has("n") || len(r.Nums) == 0),
		!slices.ContainsFunc(r.Nums, func(n int) bool { return n < 0 }),
	} {
		if !good {
			return api.ErrForm
		}
	}
	return api.OK
}

func narrow(n int) bool { return n >= 0 && n <= high }

func goodPost(p api.Post) bool {
	a := p.Attr
	if !p.Is {
		return a == api.Attr{}
	}
	return a.Type >= 1 && a.Type <= 7 && a.Mode >= 0 && a.Mode <= 4095 && narrow(a.Nlink) && narrow(a.Uid) && narrow(a.Gid) &&
		a.Size >= 0 && narrow(a.Id) && a.Gen >= 0 && a.Change >= 0 && a.Time >= 0
}

func goodWcc(c api.Wcc) bool {
	return c.Before.N >= 0 && (c.Before.Is || c.Before.N == 0) && goodPost(c.After)
}

func goodEntry(e api.Entry, plus bool) bool {
	if !plus && (e.Attr != api.Post{} || e.Fh != "") {
		return false
	}
	return e.Gen >= 0 && len(e.Name) <= 255 && e.Cookie >= 0 && goodPost(e.Attr) && len(e.Fh) <= 64
}

// anyReply is results whose fields are some of those that edges have: mostly valid ones, and mostly those that such results have.
func anyReply(chance *rand.Rand, list []field) (int, api.Reply) {
	proc, r := chance.Intn(procs), api.Reply{}
	if chance.Intn(2) == 0 {
		r.Status = failures()[chance.Intn(len(failures()))]
	}
	wild := chance.Intn(3) == 0
	if wild && chance.Intn(8) == 0 {
		r.Status = noStatuses()[chance.Intn(20)]
	}
	for _, f := range list {
		v := f.values[chance.Intn(len(f.values))]
		if (f.has(proc, r.Status == api.StOK) || wild && chance.Intn(8) == 0) && (v.valid || wild && chance.Intn(4) == 0) && len(v.bytes) < 5000 {
			v.put(&r)
		}
	}
	return proc, r
}

// P8.2, P8.3, P8.5, D1: any valid results are recovered from their bytes, and any other ones are refused.
func TestWrittenIsReadBack(t *testing.T) {
	chance, list := rand.New(rand.NewSource(1)), fields()
	count := [2][procs]int{}
	for range 20000 {
		proc, r := anyReply(chance, list)
		if want := validity(proc, r); want != api.OK {
			refused(t, "any results", proc, r, want)
			count[0][proc]++
			continue
		}
		bytes := bytesOf(proc, r)
		holds(t, "any results", given{proc, r, bytes})
		fails(t, "without the last four", proc, bytes[:len(bytes)-4], api.ErrForm)
		fails(t, "followed by zero bytes", proc, bytes+no, api.ErrForm)
		fails(t, "followed by more", proc, bytes+bytes32(chance.Int()), api.ErrForm)
		fails(t, "followed by a byte", proc, bytes+"\x00", api.ErrForm)
		count[1][proc]++
		if t.Failed() {
			t.FailNow()
		}
	}
	for proc := range procs {
		if count[0][proc] == 0 || count[1][proc] == 0 {
			t.Errorf("of %d, %d results that are not valid and %d that are were tried", proc, count[0][proc], count[1][proc])
		}
	}
}

// readOrNot tells whether bytes were read, in which case the results are valid and have these bytes; if not, the answer is ErrForm and zero results.
func readOrNot(t *testing.T, proc int, bytes string) bool {
	t.Helper()
	r, err := reply.Get(proc, bytes)
	if err != api.OK {
		if err != api.ErrForm || !equal(r, api.Reply{}) {
			t.Fatalf("Get(%d, %x) = %+v, error %d", proc, bytes, r, err)
		}
		return false
	}
	if validity(proc, r) != api.OK || bytesOf(proc, r) != bytes {
		t.Fatalf("Get(%d, %x) = %+v, whose bytes are %x", proc, bytes, r, bytesOf(proc, r))
	}
	holds(t, "any bytes", given{proc, r, bytes})
	return true
}

// P8.3, P8.5, D1: any bytes are those of the results that are read, or are refused.
func TestReadIsWrittenAgain(t *testing.T) {
	chance := rand.New(rand.NewSource(2))
	read := [2][procs]int{}
	statuses := []string{fine, fine, "\x00\x00\x00\x46", "\x00\x00\x27\x11", "\x00\x00\x00\x03"}
	pieces := []string{no, no, no, yes, yes, obj, wcc, "\x00\x00\x00\x02", "\x00\x00\x00\x05", "\x00\x00\x00\x11", "\x00\x00\x00\x41", "\xff\xff\xff\xff", "\x7f\xff\xff\xff", "abcd", "a\x00\x00\x00", "\x00"}
	for range 200000 {
		bytes := statuses[chance.Intn(len(statuses))]
		some := pieces[:[]int{2, 4, 7, len(pieces)}[chance.Intn(4)]]
		for range chance.Intn(10) {
			bytes += some[chance.Intn(len(some))]
		}
		proc := chance.Intn(procs)
		if readOrNot(t, proc, bytes) {
			read[min(1, int(bytes[3]))][proc]++
		}
	}
	for i := range read {
		for proc, n := range read[i] {
			if n == 0 {
				t.Errorf("no bytes of %d were read, with StOK or not: %d", proc, i)
			}
		}
	}
}

// P8.3, P8.5: bytes of results in which one is another, or some are missing, or some are too many.
func TestBytesThatAreSpoilt(t *testing.T) {
	chance, list := rand.New(rand.NewSource(3)), fields()
	for range 40000 {
		proc, r := anyReply(chance, list)
		if validity(proc, r) != api.OK {
			continue
		}
		bytes := []byte(bytesOf(proc, r))
		at := chance.Intn(len(bytes) + 1)
		switch {
		case at < len(bytes) && chance.Intn(2) == 0:
			bytes[at] ^= 1 << chance.Intn(8)
		case chance.Intn(2) == 0:
			bytes = append(bytes[:at:at], bytes[min(len(bytes), at+1+chance.Intn(8)):]...)
		default:
			bytes = append(append(bytes[:at:at], []byte(yes)[chance.Intn(4):]...), bytes[at:]...)
		}
		readOrNot(t, proc, string(bytes))
	}
}

// P1: every call ends and none panics, whatever it is given.
func TestNoCallPanics(t *testing.T) {
	texts := []string{"", "\x00", "\xff\xff\xff\xff", "\x7f\xff\xff\xff", fine + h, fine + obj + no + "\xff\xff\xff\xff", strings.Repeat("\x00", 1<<20+1), strings.Repeat("\xff", 3000)}
	numbers := []int{math.MinInt, -1 << 32, -1, 0, 1, 2, 7, 16, 17, 21, 22, 23, 64, 65, 70, 255, 10001, high, high + 1, math.MaxInt}
	for _, proc := range append(numbers, 3, 4, 5, 6, 8, 9, 10, 11, 12, 13, 14, 15, 18, 19, 20) {
		for _, s := range texts {
			reply.Get(proc, s)
			for _, n := range numbers {
				for i := range 2 {
					r := everywhere(n, s, i == 1)
					if err := reply.Check(proc, r); err != validity(proc, r) {
						t.Errorf("Check(%d with %d bytes and %d) = %d", proc, len(s), n, err)
					}
					reply.Put(proc, r)
					reply.Same(r, reply.Clone(r))
				}
			}
		}
		for _, n := range numbers {
			reply.Known(api.Status(n))
			reply.Fields(proc, n%2 == 0)
		}
	}
}

// everywhere is results all of whose fields are made of that number, string and boolean.
func everywhere(n int, s string, is bool) api.Reply {
	attr := api.Attr{Type: n, Mode: n, Nlink: n, Uid: n, Gid: n, Size: n, Id: n, Gen: n, Change: n, Time: n}
	post := api.Post{Is: is, Attr: attr}
	wcc := api.Wcc{Before: api.Opt{Is: is, N: n}, After: post}
	r := api.Reply{Status: api.Status(n), Fh: s, Obj: post, Dir: post, Wcc: wcc, Wcc2: wcc, Access: n, Count: n, Eof: is, Data: s, Stable: n, Verf: n}
	if n > 0 {
		r.Entries = slices.Repeat([]api.Entry{{Gen: n, Name: s, Cookie: n, Attr: post, Fh: s}}, min(n, 300))
		r.Nums = slices.Repeat([]int{n}, min(n, 300))
	}
	return r
}

// P1: lists that are far too long, of strings that are, too, are refused without being gone through.
func TestListsFarTooLong(t *testing.T) {
	long := strings.Repeat("l", 1<<20)
	list := slices.Repeat([]api.Entry{{Name: long, Fh: long}}, 1<<17)
	refused(t, "many entries", api.ProcReaddir, api.Reply{Entries: list[:1<<12]}, api.ErrForm)
	if err := reply.Check(api.ProcReaddirplus, api.Reply{Entries: list}); err != api.ErrForm {
		t.Errorf("Check of so many entries = %d", err)
	}
	if err := reply.Check(api.ProcFsstat, api.Reply{Nums: make([]int, 1<<22)}); err != api.ErrForm {
		t.Errorf("Check of so many numbers = %d", err)
	}
}
