package call_test

import (
	"math"
	"testing"

	"posthouse/api"
	"posthouse/call"
)

// high is the highest 32-bit number.
const high = 1<<32 - 1

// procs is how many procedures there are, from 0 on.
const procs = 22

// layout is the fields of each procedure's calls, by their letters.
func layout(proc int) string {
	return [procs]string{"", "f", "fsg", "fn", "fh", "f", "foc", "fohd", "fnhsv", "fns", "fnst", "fnhs", "fn", "fn", "fnFN", "fFN", "fkvc", "fkvc", "f", "f", "f", "foc"}[proc]
}

// strangers is procedures that there are not.
func strangers() []int {
	return []int{-1, -2, -22, math.MinInt, 22, 23, 255, 256, 1 << 16, high, high + 1, high + 2, math.MaxInt}
}

// P7.1: the fields of each procedure, and none of what is no procedure.
func TestFields(t *testing.T) {
	for proc := range procs {
		if got := call.Fields(proc); got != layout(proc) {
			t.Errorf("Fields(%d) = %q, want %q", proc, got, layout(proc))
		}
	}
	for _, proc := range strangers() {
		if got := call.Fields(proc); got != "" {
			t.Errorf("Fields(%d) = %q", proc, got)
		}
	}
}

// P7.1: the changing procedures are 2, and 7 to 15.
func TestChanges(t *testing.T) {
	changing := [procs]bool{2: true, 7: true, 8: true, 9: true, 10: true, 11: true, 12: true, 13: true, 14: true, 15: true}
	for proc := range procs {
		if got := call.Changes(proc); got != changing[proc] {
			t.Errorf("Changes(%d) = %t", proc, got)
		}
	}
	for _, proc := range strangers() {
		if call.Changes(proc) {
			t.Errorf("Changes(%d) = true", proc)
		}
	}
}

// pair is a call and its bytes.
type pair struct {
	call  api.Call
	bytes string
}

// Bytes of the fields in ordinary calls.
const (
	yes  = "\x00\x00\x00\x01"
	no   = "\x00\x00\x00\x00"
	h    = "\x00\x00\x00\x01h\x00\x00\x00"
	hh   = "\x00\x00\x00\x02hh\x00\x00"
	a    = "\x00\x00\x00\x01a\x00\x00\x00"
	bbb  = "\x00\x00\x00\x03bbb\x00"
	n256 = "\x00\x00\x00\x00\x00\x00\x01\x00"
	n7   = "\x00\x00\x00\x07"
	wide = "\x01\x02\x03\x04\x05\x06\x07\x08"
	data = "\x00\x00\x00\x06a\x00b\xffcd\x00\x00"
	set  = yes + "\x00\x00\x00\x00\x00\x00\x01\xa4" + yes + "\x00\x00\x00\x00\x01\x02\x03\x04" + no + yes + n256 + no
)

// someSet is a change that has some of its options.
func someSet() api.Set {
	return api.Set{Mode: api.Opt{Is: true, N: 0o644}, Uid: api.Opt{Is: true, N: 0x01020304}, Size: api.Opt{Is: true, N: 256}}
}

// someWide is a 64-bit number of which each byte is another one.
const someWide = 0x0102030405060708

// ordinary is a call of each procedure, in the order of their numbers, and its bytes.
func ordinary() []pair {
	return []pair{
		{api.Call{Proc: api.ProcNull}, ""},
		{api.Call{Proc: api.ProcGetattr, Fh: "h"}, h},
		{api.Call{Proc: api.ProcSetattr, Fh: "h", Set: someSet(), Guard: api.Opt{Is: true, N: someWide}}, h + set + yes + wide},
		{api.Call{Proc: api.ProcLookup, Fh: "h", Name: "a"}, "\x00\x00\x00\x01\x68\x00\x00\x00\x00\x00\x00\x01\x61\x00\x00\x00"},
		{api.Call{Proc: api.ProcAccess, Fh: "h", How: 7}, h + n7},
		{api.Call{Proc: api.ProcReadlink, Fh: "h"}, h},
		{api.Call{Proc: api.ProcRead, Fh: "h", Offset: someWide, Count: 7}, h + wide + n7},
		{api.Call{Proc: api.ProcWrite, Fh: "h", Offset: someWide, How: 7, Data: "a\x00b\xffcd"}, h + wide + n7 + data},
		{api.Call{Proc: api.ProcCreate, Fh: "h", Name: "a", How: 7, Set: someSet(), Verf: someWide}, h + a + n7 + set + wide},
		{api.Call{Proc: api.ProcMkdir, Fh: "h", Name: "a", Set: someSet()}, h + a + set},
		{api.Call{Proc: api.ProcSymlink, Fh: "h", Name: "a", Set: someSet(), Text: "bbb"}, h + a + set + bbb},
		{api.Call{Proc: api.ProcMknod, Fh: "h", Name: "a", How: 7, Set: someSet()}, h + a + n7 + set},
		{api.Call{Proc: api.ProcRemove, Fh: "h", Name: "a"}, h + a},
		{api.Call{Proc: api.ProcRmdir, Fh: "h", Name: "a"}, h + a},
		{api.Call{Proc: api.ProcRename, Fh: "h", Name: "a", Fh2: "hh", Name2: "bbb"}, h + a + hh + bbb},
		{api.Call{Proc: api.ProcLink, Fh: "h", Fh2: "hh", Name2: "bbb"}, h + hh + bbb},
		{api.Call{Proc: api.ProcReaddir, Fh: "h", Cookie: someWide, Verf: 256, Count: 7}, h + wide + n256 + n7},
		{api.Call{Proc: api.ProcReaddirplus, Fh: "h", Cookie: someWide, Verf: 256, Count: 7}, h + wide + n256 + n7},
		{api.Call{Proc: api.ProcFsstat, Fh: "h"}, h},
		{api.Call{Proc: api.ProcFsinfo, Fh: "h"}, h},
		{api.Call{Proc: api.ProcPathconf, Fh: "h"}, h},
		{api.Call{Proc: api.ProcCommit, Fh: "h", Offset: someWide, Count: 7}, h + wide + n7},
	}
}

// empties is the call of each procedure whose fields are all zero, and its bytes.
func empties() []pair {
	sizes := [procs]int{0, 4, 28, 8, 8, 4, 16, 20, 40, 28, 32, 32, 8, 8, 16, 12, 24, 24, 4, 4, 4, 16}
	list := make([]pair, procs)
	for proc := range procs {
		list[proc] = pair{api.Call{Proc: proc}, string(make([]byte, sizes[proc]))}
	}
	return list
}

// holds tells whether a call is valid, has these bytes, and is what these bytes are read as.
func holds(t *testing.T, name string, p pair) {
	t.Helper()
	if err := call.Check(p.call); err != api.OK {
		t.Errorf("%s: Check(%+v) = %d", name, p.call, err)
	}
	if got, err := call.Put(p.call); got != p.bytes || err != api.OK {
		t.Errorf("%s: Put(%+v) = %x, error %d, want %x", name, p.call, got, err, p.bytes)
	}
	if got, err := call.Get(p.call.Proc, p.bytes); got != p.call || err != api.OK {
		t.Errorf("%s: Get(%d, %x) = %+v, error %d, want %+v", name, p.call.Proc, p.bytes, got, err, p.call)
	}
}

// refused tells whether a call is refused with that error, and has no bytes.
func refused(t *testing.T, name string, c api.Call, want api.Errno) {
	t.Helper()
	if err := call.Check(c); err != want {
		t.Errorf("%s, procedure %d: Check = %d, want %d", name, c.Proc, err, want)
	}
	if got, err := call.Put(c); got != "" || err != want {
		t.Errorf("%s, procedure %d: Put = %d bytes, error %d, want %d", name, c.Proc, len(got), err, want)
	}
}

// fails tells whether bytes are refused with that error, and a zero call is answered.
func fails(t *testing.T, name string, proc int, bytes string, want api.Errno) {
	t.Helper()
	if got, err := call.Get(proc, bytes); got != (api.Call{}) || err != want {
		t.Errorf("%s: Get(%d, %x) = %+v, error %d, want %d", name, proc, bytes, got, err, want)
	}
}

// P7.2, P7.3, P7.4: a call of each procedure and its bytes.
func TestOrdinary(t *testing.T) {
	for proc, p := range ordinary() {
		if p.call.Proc != proc {
			t.Errorf("the call of %d stands in the place of %d", p.call.Proc, proc)
		}
		holds(t, "ordinary", p)
	}
	for _, p := range empties() {
		holds(t, "all zero", p)
	}
}

// P7.2, P7.3: what is no procedure is told first, whatever else is wrong, and with all of it right.
func TestStrangers(t *testing.T) {
	for _, proc := range strangers() {
		calls := []api.Call{{}, {Fh: "h"}, {How: -1}, {Guard: api.Opt{N: 1}}, {Fh: string(make([]byte, 65))}, {Set: api.Set{Mode: api.Opt{Is: true, N: 4096}}}}
		for _, p := range ordinary() {
			calls = append(calls, p.call)
		}
		for _, c := range calls {
			c.Proc = proc
			refused(t, "no such procedure", c, api.ErrProc)
		}
		for _, bytes := range []string{"", "\x00", no, h, h + a, h + "\xff", "\xff\xff\xff\xff"} {
			fails(t, "no such procedure", proc, bytes, api.ErrProc)
		}
	}
}
