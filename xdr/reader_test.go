package xdr_test

import (
	"math"
	"strings"
	"testing"

	"posthouse/api"
	"posthouse/xdr"
)

// get reads one value, which it answers as an interface value so that all kinds can be held against each other.
type get func(r *xdr.Reader) any

func getU32(r *xdr.Reader) any  { return r.U32() }
func getU64(r *xdr.Reader) any  { return r.U64() }
func getBool(r *xdr.Reader) any { return r.Bool() }
func getOpt(r *xdr.Reader) any  { return r.Opt() }

func getFixed(n int) get {
	return func(r *xdr.Reader) any { return r.Fixed(n) }
}

func getOpaque(most int) get {
	return func(r *xdr.Reader) any { return r.Opaque(most) }
}

// taken is a read that goes well: all of text is read, and is want.
type taken struct {
	name string
	get  get
	text string
	want any
}

func takens() []taken {
	long := strings.Repeat("l", longest+1)
	return []taken{
		{"U32 0", getU32, "\x00\x00\x00\x00", 0},
		{"U32 1", getU32, "\x00\x00\x00\x01", 1},
		{"U32 bytes in order", getU32, "\x01\x02\x03\x04", 0x01020304},
		{"U32 2^31 - 1", getU32, "\x7f\xff\xff\xff", 1<<31 - 1},
		{"U32 2^31", getU32, "\x80\x00\x00\x00", 1 << 31},
		{"U32 2^32 - 1", getU32, "\xff\xff\xff\xff", 1<<32 - 1},

		{"U64 0", getU64, "\x00\x00\x00\x00\x00\x00\x00\x00", 0},
		{"U64 5", getU64, "\x00\x00\x00\x00\x00\x00\x00\x05", 5},
		{"U64 bytes in order", getU64, "\x01\x02\x03\x04\x05\x06\x07\x08", 0x0102030405060708},
		{"U64 2^32 - 1", getU64, "\x00\x00\x00\x00\xff\xff\xff\xff", 1<<32 - 1},
		{"U64 2^32", getU64, "\x00\x00\x00\x01\x00\x00\x00\x00", 1 << 32},
		{"U64 2^63 - 1", getU64, "\x7f\xff\xff\xff\xff\xff\xff\xff", math.MaxInt},

		{"Bool 0", getBool, "\x00\x00\x00\x00", false},
		{"Bool 1", getBool, "\x00\x00\x00\x01", true},

		{"Fixed 0", getFixed(0), "", ""},
		{"Fixed 1", getFixed(1), "a\x00\x00\x00", "a"},
		{"Fixed 2", getFixed(2), "ab\x00\x00", "ab"},
		{"Fixed 3", getFixed(3), "abc\x00", "abc"},
		{"Fixed 4", getFixed(4), "abcd", "abcd"},
		{"Fixed 5", getFixed(5), "abcde\x00\x00\x00", "abcde"},
		{"Fixed 4, all zero bytes", getFixed(4), "\x00\x00\x00\x00", "\x00\x00\x00\x00"},
		{"Fixed 3, no UTF-8", getFixed(3), "\xff\x00\xc3\x00", "\xff\x00\xc3"},
		{"Fixed 2^20", getFixed(longest), long[1:], long[1:]},
		{"Fixed 2^20 + 1", getFixed(longest + 1), long + "\x00\x00\x00", long},

		{"Opaque of 0 bytes, most 0", getOpaque(0), "\x00\x00\x00\x00", ""},
		{"Opaque of 0 bytes, most 9", getOpaque(9), "\x00\x00\x00\x00", ""},
		{"Opaque of 1 byte", getOpaque(1), "\x00\x00\x00\x01a\x00\x00\x00", "a"},
		{"Opaque of 2 bytes, most 2", getOpaque(2), "\x00\x00\x00\x02ab\x00\x00", "ab"},
		{"Opaque of 2 bytes, most 3", getOpaque(3), "\x00\x00\x00\x02ab\x00\x00", "ab"},
		{"Opaque of 3 bytes", getOpaque(3), "\x00\x00\x00\x03abc\x00", "abc"},
		{"Opaque of 4 bytes", getOpaque(4), "\x00\x00\x00\x04abcd", "abcd"},
		{"Opaque of 4 bytes, any most", getOpaque(math.MaxInt), "\x00\x00\x00\x04abcd", "abcd"},
		{"Opaque of 5 bytes", getOpaque(5), "\x00\x00\x00\x05abcde\x00\x00\x00", "abcde"},
		{"Opaque of 300 bytes", getOpaque(300), "\x00\x00\x01\x2c" + long[:300], long[:300]},
		{"Opaque of 2^20 bytes", getOpaque(longest), "\x00\x10\x00\x00" + long[1:], long[1:]},

		{"Opt none", getOpt, "\x00\x00\x00\x00", api.Opt{}},
		{"Opt 0", getOpt, "\x00\x00\x00\x01\x00\x00\x00\x00\x00\x00\x00\x00", api.Opt{Is: true}},
		{"Opt 5", getOpt, "\x00\x00\x00\x01\x00\x00\x00\x00\x00\x00\x00\x05", api.Opt{Is: true, N: 5}},
		{"Opt 2^63 - 1", getOpt, "\x00\x00\x00\x01\x7f\xff\xff\xff\xff\xff\xff\xff", api.Opt{Is: true, N: math.MaxInt}},
	}
}

// failed is a read that fails, with the zero value that it then answers.
type failed struct {
	name string
	get  get
	text string
	err  api.Errno
	zero any
}

func faileds() []failed {
	var fs []failed
	short := func(name string, g get, text string, zero any) {
		for n := range len(text) {
			fs = append(fs, failed{name + ", bytes are missing", g, text[:n], api.ErrShort, zero})
		}
	}
	short("U32", getU32, "\xff\xff\xff\xff", 0)
	short("U64", getU64, "\xff\xff\xff\xff\xff\xff\xff\xff", 0)
	short("Bool", getBool, "\x02\x02\x02\x02", false)
	short("Fixed 1", getFixed(1), "a\x01\x01\x01", "")
	short("Fixed 2", getFixed(2), "ab\x01\x01", "")
	short("Fixed 3", getFixed(3), "abc\x01", "")
	short("Fixed 4", getFixed(4), "abcd", "")
	short("Fixed 5", getFixed(5), "abcde\x01\x01\x01", "")
	short("Opaque", getOpaque(5), "\x00\x00\x00\x05abcde\x01\x01\x01", "")
	short("Opaque of 4 bytes", getOpaque(4), "\x00\x00\x00\x04abcd", "")
	short("Opaque whose length is above most, were it there", getOpaque(0), "\xff\xff\xff\xff", "")
	short("Opaque with most below 0", getOpaque(-1), "\x00\x00\x00\x00", "")
	short("Opt none", getOpt, "\x00\x00\x00\x00", api.Opt{})
	short("Opt 5", getOpt, "\x00\x00\x00\x01\x00\x00\x00\x00\x00\x00\x00\x05", api.Opt{})
	short("Opt above 2^63 - 1", getOpt, "\x00\x00\x00\x01\xff\xff\xff\xff\xff\xff\xff\xff", api.Opt{})
	return append(fs, []failed{
		{"U64 2^63", getU64, "\x80\x00\x00\x00\x00\x00\x00\x00", api.ErrRange, 0},
		{"U64 2^63 + 5", getU64, "\x80\x00\x00\x00\x00\x00\x00\x05", api.ErrRange, 0},
		{"U64 2^64 - 1", getU64, "\xff\xff\xff\xff\xff\xff\xff\xff", api.ErrRange, 0},

		{"Bool 2", getBool, "\x00\x00\x00\x02", api.ErrBool, false},
		{"Bool 255", getBool, "\x00\x00\x00\xff", api.ErrBool, false},
		{"Bool 2^8", getBool, "\x00\x00\x01\x00", api.ErrBool, false},
		{"Bool 2^16 + 1", getBool, "\x00\x01\x00\x01", api.ErrBool, false},
		{"Bool 2^24 + 1", getBool, "\x01\x00\x00\x01", api.ErrBool, false},
		{"Bool 2^32 - 1", getBool, "\xff\xff\xff\xff", api.ErrBool, false},

		{"Fixed -1", getFixed(-1), "abcd", api.ErrArg, ""},
		{"Fixed -1 of nothing", getFixed(-1), "", api.ErrArg, ""},
		{"Fixed -4", getFixed(-4), "abcd", api.ErrArg, ""},
		{"Fixed -2^63", getFixed(math.MinInt), "abcd", api.ErrArg, ""},
		{"Fixed 2^32", getFixed(1 << 32), "abcd", api.ErrShort, ""},
		{"Fixed 2^63 - 4", getFixed(math.MaxInt - 3), "abcd", api.ErrShort, ""},
		{"Fixed 2^63 - 3", getFixed(math.MaxInt - 2), "abcd", api.ErrShort, ""},
		{"Fixed 2^63 - 2", getFixed(math.MaxInt - 1), "abcd", api.ErrShort, ""},
		{"Fixed 2^63 - 1", getFixed(math.MaxInt), "abcd", api.ErrShort, ""},
		{"Fixed 1, first padding byte", getFixed(1), "a\x01\x00\x00", api.ErrPad, ""},
		{"Fixed 1, second padding byte", getFixed(1), "a\x00\x01\x00", api.ErrPad, ""},
		{"Fixed 1, third padding byte", getFixed(1), "a\x00\x00\x01", api.ErrPad, ""},
		{"Fixed 2, first padding byte", getFixed(2), "ab\x80\x00", api.ErrPad, ""},
		{"Fixed 2, second padding byte", getFixed(2), "ab\x00\x80", api.ErrPad, ""},
		{"Fixed 3, padding byte", getFixed(3), "abc ", api.ErrPad, ""},
		{"Fixed 5, padding byte", getFixed(5), "abcde\x00\x00\xff", api.ErrPad, ""},

		{"Opaque, one byte above most", getOpaque(1), "\x00\x00\x00\x02ab\x00\x00", api.ErrLong, ""},
		{"Opaque, above most, and bytes are missing", getOpaque(1), "\x00\x00\x00\x02", api.ErrLong, ""},
		{"Opaque, above most, and wrong padding", getOpaque(1), "\x00\x00\x00\x02ab\x00\x01", api.ErrLong, ""},
		{"Opaque, 2^32 - 1 above most", getOpaque(1<<32 - 2), "\xff\xff\xff\xff", api.ErrLong, ""},
		{"Opaque, most 0", getOpaque(0), "\x00\x00\x00\x01a\x00\x00\x00", api.ErrLong, ""},
		{"Opaque, most -1", getOpaque(-1), "\x00\x00\x00\x00", api.ErrLong, ""},
		{"Opaque, most -2^63", getOpaque(math.MinInt), "\x00\x00\x00\x00abcd", api.ErrLong, ""},
		{"Opaque of 2^32 - 1 bytes", getOpaque(1<<32 - 1), "\xff\xff\xff\xffabcd", api.ErrShort, ""},
		{"Opaque of 2^32 - 1 bytes, any most", getOpaque(math.MaxInt), "\xff\xff\xff\xffabcd", api.ErrShort, ""},
		{"Opaque, first padding byte", getOpaque(9), "\x00\x00\x00\x01a\x01\x00\x00", api.ErrPad, ""},
		{"Opaque, second padding byte", getOpaque(9), "\x00\x00\x00\x01a\x00\x01\x00", api.ErrPad, ""},
		{"Opaque, third padding byte", getOpaque(9), "\x00\x00\x00\x01a\x00\x00\x01", api.ErrPad, ""},
		{"Opaque of 3 bytes, padding byte", getOpaque(3), "\x00\x00\x00\x03abcd", api.ErrPad, ""},

		{"Opt, boolean 2", getOpt, "\x00\x00\x00\x02\x00\x00\x00\x00\x00\x00\x00\x05", api.ErrBool, api.Opt{}},
		{"Opt, boolean 2, number missing", getOpt, "\x00\x00\x00\x02", api.ErrBool, api.Opt{}},
		{"Opt, boolean 2^24", getOpt, "\x01\x00\x00\x00\x00\x00\x00\x00\x00\x00\x00\x05", api.ErrBool, api.Opt{}},
		{"Opt 2^63", getOpt, "\x00\x00\x00\x01\x80\x00\x00\x00\x00\x00\x00\x00", api.ErrRange, api.Opt{}},
		{"Opt 2^64 - 1", getOpt, "\x00\x00\x00\x01\xff\xff\xff\xff\xff\xff\xff\xff", api.ErrRange, api.Opt{}},
	}...)
}

// P1.2: what is read, and that just its bytes are.
func TestReadsOneValue(t *testing.T) {
	for _, c := range takens() {
		for _, more := range []string{"", "m", "\x00\x00\x00\x01more"} {
			r := xdr.Read(c.text + more)
			if r.Left() != len(c.text+more) || r.Err() != api.OK {
				t.Errorf("%s: at first Left is %d and Err %d", c.name, r.Left(), r.Err())
			}
			if got := c.get(r); got != c.want {
				t.Errorf("%s: read %.40q, want %.40q", c.name, got, c.want)
			}
			want := api.OK
			if more != "" {
				want = api.ErrMore
			}
			if r.Left() != len(more) || r.Err() != api.OK || r.Done() != want {
				t.Errorf("%s: with %d bytes behind: Left %d, Err %d, Done %d", c.name, len(more), r.Left(), r.Err(), r.Done())
			}
		}
	}
}

// P1.2: which error there is, and what is answered with it.
func TestFails(t *testing.T) {
	for _, c := range faileds() {
		r := xdr.Read(c.text)
		if got := c.get(r); got != c.zero {
			t.Errorf("%s (%q): read %v, want %v", c.name, c.text, got, c.zero)
		}
		if r.Err() != c.err || r.Done() != c.err || r.Left() != 0 {
			t.Errorf("%s (%q): Err %d, Done %d, Left %d; want the error %d", c.name, c.text, r.Err(), r.Done(), r.Left(), c.err)
		}
	}
}

// checkDead tells whether a reader that failed answers zero values, whatever is asked, and keeps its error.
func checkDead(t *testing.T, name string, r *xdr.Reader, err api.Errno) {
	t.Helper()
	for _, c := range []struct {
		name string
		get  get
		zero any
	}{
		{"U32", getU32, 0},
		{"U64", getU64, 0},
		{"Bool", getBool, false},
		{"Fixed(0)", getFixed(0), ""},
		{"Fixed(4)", getFixed(4), ""},
		{"Fixed(-1)", getFixed(-1), ""},
		{"Fixed(2^63 - 1)", getFixed(math.MaxInt), ""},
		{"Opaque(0)", getOpaque(0), ""},
		{"Opaque(9)", getOpaque(9), ""},
		{"Opaque(-1)", getOpaque(-1), ""},
		{"Opt", getOpt, api.Opt{}},
	} {
		if got := c.get(r); got != c.zero {
			t.Errorf("%s, then %s: %v", name, c.name, got)
		}
		if r.Err() != err || r.Done() != err || r.Left() != 0 {
			t.Errorf("%s, then %s: Err %d, Done %d, Left %d; want the error %d", name, c.name, r.Err(), r.Done(), r.Left(), err)
		}
	}
}

// P1.2: the first error remains, though bytes are there that could be read, or that would fail otherwise.
func TestFirstErrorRemains(t *testing.T) {
	good := strings.Repeat("\x00\x00\x00\x01", 20)
	for _, c := range faileds() {
		texts := []string{c.text}
		if c.err != api.ErrShort {
			texts = append(texts, c.text+good)
		}
		for _, text := range texts {
			r := xdr.Read(good[:4] + text)
			if got := r.U32(); got != 1 {
				t.Errorf("%s: ahead of it %d is read", c.name, got)
			}
			c.get(r)
			checkDead(t, c.name, r, c.err)
		}
	}
}

// P1.2: bytes that a failed read leaves behind are never read, even where they are enough for the next value.
func TestNothingIsReadBehindErrShort(t *testing.T) {
	for _, g := range []get{getU64, getFixed(5), getFixed(8), getOpaque(9)} {
		r := xdr.Read("\x00\x00\x00\x05")
		g(r)
		checkDead(t, "bytes are missing", r, api.ErrShort)
	}
}

// P1.2: Done tells of bytes that are left, and takes none of them.
func TestDoneOnlyTells(t *testing.T) {
	r := xdr.Read("\x00\x00\x00\x07\x00\x00\x00\x08")
	for _, want := range []int{7, 8} {
		if r.Done() != api.ErrMore || r.Err() != api.OK || r.Left() == 0 {
			t.Errorf("ahead of %d: Done %d, Err %d, Left %d", want, r.Done(), r.Err(), r.Left())
		}
		if got := r.U32(); got != want {
			t.Errorf("%d, want %d", got, want)
		}
	}
	if r.Done() != api.OK || r.Err() != api.OK || r.Left() != 0 {
		t.Errorf("at the end: Done %d, Err %d, Left %d", r.Done(), r.Err(), r.Left())
	}
}

// P1.2: a reader of nothing, one that Read made and one that it did not.
func TestReaderOfNothing(t *testing.T) {
	for _, r := range []*xdr.Reader{xdr.Read(""), {}} {
		if r.Left() != 0 || r.Err() != api.OK || r.Done() != api.OK {
			t.Errorf("Left %d, Err %d, Done %d", r.Left(), r.Err(), r.Done())
		}
		if r.Fixed(0) != "" || r.Done() != api.OK {
			t.Errorf("behind Fixed(0): Done %d", r.Done())
		}
		if r.U32() != 0 || r.Done() != api.ErrShort {
			t.Errorf("behind U32: Done %d", r.Done())
		}
	}
}

// P1.2: two readers of one text know nothing of each other.
func TestReadersAreTheirOwn(t *testing.T) {
	text := "\x00\x00\x00\x01\x00\x00\x00\x02"
	one, two := xdr.Read(text), xdr.Read(text)
	one.U32()
	one.Fixed(-1)
	if two.Left() != 8 || two.U32() != 1 || two.U32() != 2 || two.Done() != api.OK {
		t.Errorf("the other one has Left %d, Done %d", two.Left(), two.Done())
	}
}

// P1.2: a nil reader.
func TestNilReader(t *testing.T) {
	var r *xdr.Reader
	if r.Err() != api.ErrNil || r.Done() != api.ErrNil || r.Left() != 0 {
		t.Errorf("Err %d, Done %d, Left %d", r.Err(), r.Done(), r.Left())
	}
	checkDead(t, "nil", r, api.ErrNil)
}
