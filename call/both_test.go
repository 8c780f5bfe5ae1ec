package call_test

import (
	"math"
	"math/rand"
	"strings"
	"testing"

	"posthouse/api"
	"posthouse/call"
)

// validity tells by the document's words whether a call is valid, and bytesOf what its bytes are.
func validity(c api.Call) api.Errno {
	if c.Proc < 0 || c.Proc >= procs {
		return api.ErrProc
	}
	narrow := func(n int) bool { return n >= 0 && n <= high }
	option := func(o api.Opt, most int) bool { return o.N >= 0 && o.N <= most && (o.Is || o.N == 0) }
	has := func(letter string) bool { return strings.Contains(layout(c.Proc), letter) }
	for _, good := range []bool{
		len(c.Fh) <= 64 && (has("f") || c.Fh == ""),
		len(c.Name) <= 255 && (has("n") || c.Name == ""),
		len(c.Fh2) <= 64 && (has("F") || c.Fh2 == ""),
		len(c.Name2) <= 255 && (has("N") || c.Name2 == ""),
		c.Offset >= 0 && (has("o") || c.Offset == 0),
		narrow(c.Count) && (has("c") || c.Count == 0),
		narrow(c.How) && (has("h") || c.How == 0),
		len(c.Data) <= 256 && (has("d") || c.Data == ""),
		option(c.Set.Mode, 4095) && option(c.Set.Uid, high) && option(c.Set.Gid, high),
		option(c.Set.Size, math.MaxInt) && option(c.Set.Time, math.MaxInt) && (has("s") || c.Set == api.Set{}),
		option(c.Guard, math.MaxInt) && (has("g") || c.Guard == api.Opt{}),
		c.Cookie >= 0 && (has("k") || c.Cookie == 0),
		c.Verf >= 0 && (has("v") || c.Verf == 0),
		len(c.Text) <= 255 && (has("t") || c.Text == ""),
	} {
		if !good {
			return api.ErrForm
		}
	}
	return api.OK
}

func bytesOf(c api.Call) string {
	var all strings.Builder
	for _, letter := range layout(c.Proc) {
		all.WriteString(fieldBytes(c, letter))
	}
	return all.String()
}

// anyCall is a call whose fields are some of those that edges have: mostly valid ones, and mostly those that the procedure has.
func anyCall(chance *rand.Rand, list []field) api.Call {
	c := api.Call{Proc: chance.Intn(procs)}
	wild := chance.Intn(3) == 0
	for _, f := range list {
		v := f.values[chance.Intn(len(f.values))]
		if (f.has(c.Proc) || wild && chance.Intn(8) == 0) && (v.valid || wild && chance.Intn(4) == 0) && len(v.bytes) < 5000 {
			v.put(&c)
		}
	}
	return c
}

// P7.2, P7.3, P7.4, D1: any valid call is recovered from its bytes, and any other one is refused.
func TestWrittenIsReadBack(t *testing.T) {
	chance, list := rand.New(rand.NewSource(1)), fields()
	count := [2][procs]int{}
	for range 20000 {
		c := anyCall(chance, list)
		if want := validity(c); want != api.OK {
			refused(t, "any call", c, want)
			count[0][c.Proc]++
			continue
		}
		bytes := bytesOf(c)
		holds(t, "any call", pair{c, bytes})
		if bytes != "" {
			fails(t, "without the last four", c.Proc, bytes[:len(bytes)-4], api.ErrForm)
		}
		fails(t, "followed by zero bytes", c.Proc, bytes+no, api.ErrForm)
		fails(t, "followed by more", c.Proc, bytes+bytes32(chance.Int()), api.ErrForm)
		fails(t, "followed by a byte", c.Proc, bytes+"\x00", api.ErrForm)
		count[1][c.Proc]++
		if t.Failed() {
			t.FailNow()
		}
	}
	for proc := range procs {
		if count[0][proc] == 0 || count[1][proc] == 0 {
			t.Errorf("of %d, %d calls that are not valid and %d that are were tried", proc, count[0][proc], count[1][proc])
		}
	}
}

// readOrNot tells whether bytes were read, in which case the call is valid and has these bytes; if not, the answer is ErrForm and a zero call.
func readOrNot(t *testing.T, proc int, bytes string) bool {
	t.Helper()
	c, err := call.Get(proc, bytes)
	if err != api.OK {
		if err != api.ErrForm || c != (api.Call{}) {
			t.Fatalf("Get(%d, %x) = %+v, error %d", proc, bytes, c, err)
		}
		return false
	}
	if c.Proc != proc || validity(c) != api.OK || bytesOf(c) != bytes {
		t.Fatalf("Get(%d, %x) = %+v, whose bytes are %x", proc, bytes, c, bytesOf(c))
	}
	holds(t, "any bytes", pair{c, bytes})
	return true
}

// P7.3, P7.4, D1: any bytes are those of the call that is read, or are refused.
func TestReadIsWrittenAgain(t *testing.T) {
	chance := rand.New(rand.NewSource(2))
	read := [procs]int{}
	pieces := []string{no, no, no, yes, yes, "\x00\x00\x00\x02", "\x00\x00\x00\x05", "\x00\x00\x0f\xff", "\x00\x00\x10\x00", "\xff\xff\xff\xff", "\x7f\xff\xff\xff", "abcd", "a\x00\x00\x00", "\x00"}
	for range 200000 {
		bytes := ""
		some := pieces[:[]int{2, 4, len(pieces)}[chance.Intn(3)]]
		for range chance.Intn(14) {
			bytes += some[chance.Intn(len(some))]
		}
		proc := chance.Intn(procs)
		if readOrNot(t, proc, bytes) {
			read[proc]++
		}
	}
	for proc, n := range read {
		if n == 0 {
			t.Errorf("no bytes of %d were tried", proc)
		}
	}
}

// P7.3, P7.4: bytes of a call in which one is another, or some are missing, or some are too many.
func TestBytesThatAreSpoilt(t *testing.T) {
	chance, list := rand.New(rand.NewSource(3)), fields()
	for range 60000 {
		c := anyCall(chance, list)
		if validity(c) != api.OK {
			continue
		}
		bytes := []byte(bytesOf(c))
		at := chance.Intn(len(bytes) + 1)
		switch {
		case at < len(bytes) && chance.Intn(2) == 0:
			bytes[at] ^= 1 << chance.Intn(8)
		case chance.Intn(2) == 0:
			bytes = append(bytes[:at:at], bytes[min(len(bytes), at+1+chance.Intn(8)):]...)
		default:
			bytes = append(append(bytes[:at:at], []byte("\x00\x00\x00\x01")[chance.Intn(4):]...), bytes[at:]...)
		}
		readOrNot(t, c.Proc, string(bytes))
	}
}

// P1: every call ends and none panics, whatever it is given.
func TestNoCallPanics(t *testing.T) {
	texts := []string{"", "\x00", "\xff\xff\xff\xff", "\x7f\xff\xff\xff", h, h + a, strings.Repeat("\x00", 1<<20+1), strings.Repeat("\xff", 3000)}
	numbers := []int{math.MinInt, -1 << 32, -1, 0, 1, 2, 7, 16, 21, 22, 23, 255, high, high + 1, math.MaxInt}
	for _, proc := range append(numbers, 3, 4, 5, 6, 8, 9, 10, 11, 12, 13, 14, 15, 17, 18, 19, 20) {
		call.Fields(proc)
		call.Changes(proc)
		for _, s := range texts {
			call.Get(proc, s)
			for _, n := range numbers {
				for _, is := range []bool{false, true} {
					o := api.Opt{Is: is, N: n}
					c := api.Call{Proc: proc, Fh: s, Name: s, Fh2: s, Name2: s, Offset: n, Count: n, How: n, Data: s, Set: api.Set{Mode: o, Uid: o, Gid: o, Size: o, Time: o}, Guard: o, Cookie: n, Verf: n, Text: s}
					if err := call.Check(c); err != validity(c) {
						t.Errorf("Check(%d with %d bytes and %d) = %d", proc, len(s), n, err)
					}
					call.Put(c)
				}
			}
		}
	}
}
