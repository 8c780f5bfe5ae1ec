package xdr_test

import (
	"math"
	"strings"
	"testing"

	"posthouse/api"
	"posthouse/xdr"
)

const longest = 1 << 20

// put is a way to write one value, with what it should append or answer.
type put struct {
	name string
	put  func(w *xdr.Writer) api.Errno
	want string
	err  api.Errno
}

func u32(n int) func(*xdr.Writer) api.Errno {
	return func(w *xdr.Writer) api.Errno { return w.U32(n) }
}

func u64(n int) func(*xdr.Writer) api.Errno {
	return func(w *xdr.Writer) api.Errno { return w.U64(n) }
}

func boolean(is bool) func(*xdr.Writer) api.Errno {
	return func(w *xdr.Writer) api.Errno { return w.Bool(is) }
}

func fixed(s string) func(*xdr.Writer) api.Errno {
	return func(w *xdr.Writer) api.Errno { return w.Fixed(s) }
}

func opaque(s string) func(*xdr.Writer) api.Errno {
	return func(w *xdr.Writer) api.Errno { return w.Opaque(s) }
}

func option(is bool, n int) func(*xdr.Writer) api.Errno {
	return func(w *xdr.Writer) api.Errno { return w.Opt(api.Opt{Is: is, N: n}) }
}

func puts() []put {
	most := strings.Repeat("m", longest)
	return []put{
		{"U32 0", u32(0), "\x00\x00\x00\x00", api.OK},
		{"U32 1", u32(1), "\x00\x00\x00\x01", api.OK},
		{"U32 255", u32(255), "\x00\x00\x00\xff", api.OK},
		{"U32 256", u32(256), "\x00\x00\x01\x00", api.OK},
		{"U32 bytes in order", u32(0x01020304), "\x01\x02\x03\x04", api.OK},
		{"U32 2^31 - 1", u32(1<<31 - 1), "\x7f\xff\xff\xff", api.OK},
		{"U32 2^31", u32(1 << 31), "\x80\x00\x00\x00", api.OK},
		{"U32 2^32 - 1", u32(1<<32 - 1), "\xff\xff\xff\xff", api.OK},
		{"U32 2^32", u32(1 << 32), "", api.ErrRange},
		{"U32 2^32 + 1", u32(1<<32 + 1), "", api.ErrRange},
		{"U32 2^63 - 1", u32(math.MaxInt), "", api.ErrRange},
		{"U32 -1", u32(-1), "", api.ErrRange},
		{"U32 -2^32", u32(-1 << 32), "", api.ErrRange},
		{"U32 -2^63", u32(math.MinInt), "", api.ErrRange},

		{"U64 0", u64(0), "\x00\x00\x00\x00\x00\x00\x00\x00", api.OK},
		{"U64 5", u64(5), "\x00\x00\x00\x00\x00\x00\x00\x05", api.OK},
		{"U64 2^32 - 1", u64(1<<32 - 1), "\x00\x00\x00\x00\xff\xff\xff\xff", api.OK},
		{"U64 2^32", u64(1 << 32), "\x00\x00\x00\x01\x00\x00\x00\x00", api.OK},
		{"U64 bytes in order", u64(0x0102030405060708), "\x01\x02\x03\x04\x05\x06\x07\x08", api.OK},
		{"U64 2^63 - 1", u64(math.MaxInt), "\x7f\xff\xff\xff\xff\xff\xff\xff", api.OK},
		{"U64 -1", u64(-1), "", api.ErrRange},
		{"U64 -2^63", u64(math.MinInt), "", api.ErrRange},

		{"Bool false", boolean(false), "\x00\x00\x00\x00", api.OK},
		{"Bool true", boolean(true), "\x00\x00\x00\x01", api.OK},

		{"Fixed of 0 bytes", fixed(""), "", api.OK},
		{"Fixed of 1 byte", fixed("a"), "a\x00\x00\x00", api.OK},
		{"Fixed of 2 bytes", fixed("ab"), "ab\x00\x00", api.OK},
		{"Fixed of 3 bytes", fixed("abc"), "abc\x00", api.OK},
		{"Fixed of 4 bytes", fixed("abcd"), "abcd", api.OK},
		{"Fixed of 5 bytes", fixed("abcde"), "abcde\x00\x00\x00", api.OK},
		{"Fixed of no UTF-8", fixed("\xff\x00\xc3"), "\xff\x00\xc3\x00", api.OK},
		{"Fixed of 2^20 - 1 bytes", fixed(most[1:]), most[1:] + "\x00", api.OK},
		{"Fixed of 2^20 bytes", fixed(most), most, api.OK},
		{"Fixed of 2^20 + 1 bytes", fixed(most + "m"), "", api.ErrLong},
		{"Fixed of 2^21 bytes", fixed(most + most), "", api.ErrLong},

		{"Opaque of 0 bytes", opaque(""), "\x00\x00\x00\x00", api.OK},
		{"Opaque of 1 byte", opaque("a"), "\x00\x00\x00\x01a\x00\x00\x00", api.OK},
		{"Opaque of 2 bytes", opaque("ab"), "\x00\x00\x00\x02ab\x00\x00", api.OK},
		{"Opaque of 3 bytes", opaque("abc"), "\x00\x00\x00\x03abc\x00", api.OK},
		{"Opaque of 4 bytes", opaque("abcd"), "\x00\x00\x00\x04abcd", api.OK},
		{"Opaque of 5 bytes", opaque("abcde"), "\x00\x00\x00\x05abcde\x00\x00\x00", api.OK},
		{"Opaque of no UTF-8", opaque("\xff\x00\xc3"), "\x00\x00\x00\x03\xff\x00\xc3\x00", api.OK},
		{"Opaque of 300 bytes", opaque(most[:300]), "\x00\x00\x01\x2c" + most[:300], api.OK},
		{"Opaque of 2^20 - 1 bytes", opaque(most[1:]), "\x00\x0f\xff\xff" + most[1:] + "\x00", api.OK},
		{"Opaque of 2^20 bytes", opaque(most), "\x00\x10\x00\x00" + most, api.OK},
		{"Opaque of 2^20 + 1 bytes", opaque(most + "m"), "", api.ErrLong},
		{"Opaque of 2^21 bytes", opaque(most + most), "", api.ErrLong},

		{"Opt none", option(false, 0), "\x00\x00\x00\x00", api.OK},
		{"Opt none, N 7", option(false, 7), "\x00\x00\x00\x00", api.OK},
		{"Opt none, N below 0", option(false, -1), "\x00\x00\x00\x00", api.OK},
		{"Opt 0", option(true, 0), "\x00\x00\x00\x01\x00\x00\x00\x00\x00\x00\x00\x00", api.OK},
		{"Opt 5", option(true, 5), "\x00\x00\x00\x01\x00\x00\x00\x00\x00\x00\x00\x05", api.OK},
		{"Opt 2^32", option(true, 1<<32), "\x00\x00\x00\x01\x00\x00\x00\x01\x00\x00\x00\x00", api.OK},
		{"Opt 2^63 - 1", option(true, math.MaxInt), "\x00\x00\x00\x01\x7f\xff\xff\xff\xff\xff\xff\xff", api.OK},
		{"Opt -1", option(true, -1), "", api.ErrRange},
		{"Opt -2^63", option(true, math.MinInt), "", api.ErrRange},
	}
}

// P1.1: each method alone, by a writer that is new.
func TestWritesOneValue(t *testing.T) {
	for _, p := range puts() {
		w := &xdr.Writer{}
		if err := p.put(w); err != p.err {
			t.Errorf("%s: error %d, want %d", p.name, err, p.err)
		}
		if w.Text() != p.want {
			t.Errorf("%s: not the bytes it should be: %d, want %d", p.name, w.Len(), len(p.want))
		}
		if w.Len() != len(p.want) {
			t.Errorf("%s: Len %d, want %d", p.name, w.Len(), len(p.want))
		}
	}
}

// P1.1: a value goes behind what was written; behind an error nothing is appended, and the writer goes on.
func TestAppends(t *testing.T) {
	for _, p := range puts() {
		w := &xdr.Writer{}
		w.U32(0x61626364)
		p.put(w)
		p.put(w)
		if w.Text() != "abcd"+p.want+p.want || w.Len() != 4+2*len(p.want) {
			t.Errorf("%s: written twice behind abcd, there are %d bytes", p.name, w.Len())
		}
		if err := w.U32(7); err != api.OK {
			t.Errorf("%s: what is written behind it has the error %d", p.name, err)
		}
		if w.Text() != "abcd"+p.want+p.want+"\x00\x00\x00\x07" {
			t.Errorf("%s: what is written behind it isn't there", p.name)
		}
	}
}

// P1.1: all methods on one writer.
func TestAppendsInOrder(t *testing.T) {
	w := &xdr.Writer{}
	want := ""
	for round := 0; round < 2; round++ {
		for _, p := range puts() {
			p.put(w)
			want += p.want
		}
	}
	if w.Text() != want || w.Len() != len(want) {
		t.Errorf("%d bytes, want %d", w.Len(), len(want))
	}
}

// P1.1: a new writer is empty, and Text and Len take nothing away.
func TestNewWriterIsEmpty(t *testing.T) {
	w := &xdr.Writer{}
	if w.Text() != "" || w.Len() != 0 {
		t.Errorf("new: %q, %d", w.Text(), w.Len())
	}
	w.Opaque("ab")
	for range 2 {
		if w.Text() != "\x00\x00\x00\x02ab\x00\x00" || w.Len() != 8 {
			t.Errorf("%q, %d", w.Text(), w.Len())
		}
	}
}

// What was told stays, whatever is written later; writers have nothing in common.
func TestTextsAreTheirOwn(t *testing.T) {
	one, two := &xdr.Writer{}, &xdr.Writer{}
	one.U32(1)
	first := one.Text()
	one.U32(2)
	two.U32(3)
	if first != "\x00\x00\x00\x01" {
		t.Errorf("the first text became %q", first)
	}
	if one.Text() != "\x00\x00\x00\x01\x00\x00\x00\x02" || two.Text() != "\x00\x00\x00\x03" {
		t.Errorf("%q and %q", one.Text(), two.Text())
	}
}

// P1.1: a nil writer, with arguments that may be and that may not.
func TestNilWriter(t *testing.T) {
	var w *xdr.Writer
	for _, p := range puts() {
		if err := p.put(w); err != api.ErrNil {
			t.Errorf("%s: error %d, want ErrNil", p.name, err)
		}
	}
	if w.Text() != "" || w.Len() != 0 {
		t.Errorf("%q, %d", w.Text(), w.Len())
	}
}

// P1.3.
func TestPad(t *testing.T) {
	for n, want := range []int{0, 3, 2, 1, 0, 3, 2, 1, 0, 3} {
		if got := xdr.Pad(n); got != want {
			t.Errorf("Pad(%d) = %d, want %d", n, got, want)
		}
	}
	for n := 1; n < 3000; n++ {
		if got := xdr.Pad(n); got < 0 || got > 3 || (n+got)%4 != 0 {
			t.Errorf("Pad(%d) = %d", n, got)
		}
	}
	for _, c := range [][2]int{
		{-1, 0}, {-2, 0}, {-3, 0}, {-4, 0}, {-5, 0}, {math.MinInt, 0}, {math.MinInt + 1, 0},
		{1<<20 + 1, 3}, {1<<32 - 1, 1}, {1 << 32, 0},
		{math.MaxInt, 1}, {math.MaxInt - 1, 2}, {math.MaxInt - 2, 3}, {math.MaxInt - 3, 0},
	} {
		if got := xdr.Pad(c[0]); got != c[1] {
			t.Errorf("Pad(%d) = %d, want %d", c[0], got, c[1])
		}
	}
}
