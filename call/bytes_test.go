package call_test

import (
	"strings"
	"testing"

	"posthouse/api"
	"posthouse/call"
)

// P7.3, P7.4: bytes cut at each place, and bytes behind.
func TestCutAndFollowed(t *testing.T) {
	for _, p := range append(ordinary(), empties()...) {
		proc := p.call.Proc
		for n := range len(p.bytes) {
			fails(t, "cut", proc, p.bytes[:n], api.ErrForm)
		}
		for _, more := range []string{"\x00", "\x01", "\x00\x00", "\x00\x00\x00", no, yes, "\xff\xff\xff\xff", no + no, h, h + a, string(make([]byte, 1000))} {
			fails(t, "followed", proc, p.bytes+more, api.ErrForm)
		}
		if p.bytes != "" {
			fails(t, "twice", proc, p.bytes+p.bytes, api.ErrForm)
			fails(t, "without the first four", proc, p.bytes[4:], api.ErrForm)
		}
	}
}

// P7.3: wrong bytes in the place of each field, between all others as they are.
func TestWrongBytes(t *testing.T) {
	list := fields()
	for _, p := range ordinary() {
		for _, f := range list {
			if !f.has(p.call.Proc) {
				continue
			}
			for _, bytes := range wrong(f.letter) {
				fails(t, f.name, p.call.Proc, swapped(p, f, bytes), api.ErrForm)
			}
		}
	}
}

// wrong is bytes that no valid value of a field has.
func wrong(letter rune) []string {
	switch letter {
	case 'f', 'F':
		return wrongTexts(64)
	case 'n', 'N', 't':
		return wrongTexts(255)
	case 'd':
		return wrongTexts(256)
	case 'o', 'k', 'v':
		return wrongWides()
	case 'g':
		return wrongOptions()
	case 's':
		return wrongSets()
	}
	return nil // any four bytes are a 32-bit number
}

func wrongWides() []string {
	return []string{"\x80\x00\x00\x00\x00\x00\x00\x00", "\x80\x00\x00\x00\x00\x00\x00\x05", "\xff\xff\xff\xff\xff\xff\xff\xff"}
}

func wrongOptions() []string {
	var list []string
	for _, is := range []string{"\x00\x00\x00\x02", "\x00\x00\x00\xff", "\x00\x00\x01\x00", "\x00\x01\x00\x01", "\x01\x00\x00\x00", "\x80\x00\x00\x01", "\xff\xff\xff\xff"} {
		list = append(list, is, is+bytes64(5))
	}
	for _, n := range wrongWides() {
		list = append(list, yes+n)
	}
	return append(list, yes)
}

// wrongSets is changes of which one option has wrong bytes, or a number above what it may have.
func wrongSets() []string {
	above := []int{4096, high + 1, high + 1, -1, -1}
	var list []string
	for i, n := range above {
		for _, bytes := range append(wrongOptions(), yes+bytes64(n)) {
			list = append(list, strings.Repeat(no, i)+bytes+strings.Repeat(no, 4-i))
		}
	}
	return append(list, yes+bytes64(1<<62)+strings.Repeat(no, 4))
}

// wrongTexts is strings with wrong padding, with more bytes than there may be, and with lengths beyond the end.
func wrongTexts(most int) []string {
	list := []string{
		"\x00\x00\x00\x01a\x01\x00\x00", "\x00\x00\x00\x01a\x00\x01\x00", "\x00\x00\x00\x01a\x00\x00\x01", "\x00\x00\x00\x01a\xff\xff\xff",
		"\x00\x00\x00\x02ab\x80\x00", "\x00\x00\x00\x02ab\x00\x80", "\x00\x00\x00\x03abc ", "\x00\x00\x00\x05abcde\x00\x00\xff",
		"\x00\x00\x10\x00abcd", "\x7f\xff\xff\xffabcd", "\x80\x00\x00\x00", "\x80\x00\x00\x04abcd", "\xff\xff\xff\xff", "\xff\xff\xff\xffabcd",
	}
	for _, n := range []int{most + 1, most + 2, most + 3, most + 4, most + 5, 1000, 1 << 20, 1<<20 + 1} {
		list = append(list, bytesText(strings.Repeat("a", n)), bytesText(string(make([]byte, n))), bytes32(n))
	}
	return append(list, bytes32(most)+strings.Repeat("a", most-1), bytes32(most)+strings.Repeat("a", most/4*4-4))
}

// P7.3: the bytes of each procedure's call, read as another procedure's: the same fields of it if both have the same ones, or no call.
func TestBytesOfAnother(t *testing.T) {
	for _, p := range ordinary() {
		for proc := range procs {
			if layout(proc) != layout(p.call.Proc) {
				fails(t, "bytes of "+decimal(p.call.Proc), proc, p.bytes, api.ErrForm)
				continue
			}
			c := p.call
			c.Proc = proc
			holds(t, "bytes of "+decimal(p.call.Proc), pair{c, p.bytes})
		}
	}
}

// P7.3: no bytes are a call of NULL alone.
func TestNoBytes(t *testing.T) {
	holds(t, "no bytes", pair{})
	for proc := 1; proc < procs; proc++ {
		fails(t, "no bytes", proc, "", api.ErrForm)
	}
}

// P7.3: what is read does not hang on earlier calls, whether they went well or not.
func TestReadAgain(t *testing.T) {
	for _, p := range ordinary() {
		first, err := call.Get(p.call.Proc, p.bytes)
		fails(t, "in between", p.call.Proc, p.bytes+no, api.ErrForm)
		fails(t, "in between", procs, p.bytes, api.ErrProc)
		again, err2 := call.Get(p.call.Proc, p.bytes)
		if first != again || err != err2 {
			t.Errorf("%d: %+v, error %d, and then %+v, error %d", p.call.Proc, first, err, again, err2)
		}
	}
}
