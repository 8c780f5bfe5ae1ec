package xdr_test

import (
	"math"
	"math/rand"
	"strings"
	"testing"

	"posthouse/api"
	"posthouse/xdr"
)

// value is one value of some kind: how it is written, how it is read, and what is read.
type value struct {
	name string
	put  func(*xdr.Writer) api.Errno
	get  get
	want any
}

func anyNumber(chance *rand.Rand, most int) int {
	n := chance.Int() >> chance.Intn(63)
	switch chance.Intn(8) {
	case 0:
		n = most
	case 1:
		n = 0
	}
	if n > most {
		n = most
	}
	return n
}

func anyText(chance *rand.Rand) string {
	b := make([]byte, chance.Intn(20))
	for i := range b {
		b[i] = byte(chance.Intn(3) * chance.Intn(256))
	}
	return string(b)
}

func anyValue(chance *rand.Rand) value {
	n := anyNumber(chance, math.MaxInt)
	s := anyText(chance)
	switch chance.Intn(6) {
	case 0:
		n = anyNumber(chance, math.MaxUint32)
		return value{"U32", u32(n), getU32, n}
	case 1:
		return value{"U64", u64(n), getU64, n}
	case 2:
		return value{"Bool", boolean(n%2 == 1), getBool, n%2 == 1}
	case 3:
		return value{"Fixed", fixed(s), getFixed(len(s)), s}
	case 4:
		return value{"Opaque", opaque(s), getOpaque(len(s) + chance.Intn(2)), s}
	}
	if n%2 == 0 {
		return value{"Opt", option(false, n), getOpt, api.Opt{}}
	}
	return value{"Opt", option(true, n), getOpt, api.Opt{Is: true, N: n}}
}

// P1.4: values that are written are read back in their order, and nothing is left.
func TestWrittenIsReadBack(t *testing.T) {
	chance := rand.New(rand.NewSource(1))
	for range 3000 {
		w := &xdr.Writer{}
		values := make([]value, chance.Intn(12))
		for i := range values {
			values[i] = anyValue(chance)
			if err := values[i].put(w); err != api.OK {
				t.Fatalf("%s of %#v: error %d", values[i].name, values[i].want, err)
			}
		}
		r := xdr.Read(w.Text())
		for _, v := range values {
			if got := v.get(r); got != v.want {
				t.Fatalf("%s: read %#v, want %#v", v.name, got, v.want)
			}
		}
		if r.Done() != api.OK {
			t.Fatalf("Done %d, Left %d", r.Done(), r.Left())
		}
	}
}

// again reads one value and, if that goes well, writes it.
type again func(r *xdr.Reader, w *xdr.Writer)

func agains(n int) []again {
	return []again{
		func(r *xdr.Reader, w *xdr.Writer) { keep(r, w, r.U32(), (*xdr.Writer).U32) },
		func(r *xdr.Reader, w *xdr.Writer) { keep(r, w, r.U64(), (*xdr.Writer).U64) },
		func(r *xdr.Reader, w *xdr.Writer) { keep(r, w, r.Bool(), (*xdr.Writer).Bool) },
		func(r *xdr.Reader, w *xdr.Writer) { keep(r, w, r.Fixed(n), (*xdr.Writer).Fixed) },
		func(r *xdr.Reader, w *xdr.Writer) { keep(r, w, r.Opaque(n), (*xdr.Writer).Opaque) },
		func(r *xdr.Reader, w *xdr.Writer) { keep(r, w, r.Opt(), (*xdr.Writer).Opt) },
	}
}

func keep[T any](r *xdr.Reader, w *xdr.Writer, v T, put func(*xdr.Writer, T) api.Errno) {
	if r.Err() == api.OK {
		put(w, v)
	}
}

// P1.4: values that are read from any bytes, and written, give the bytes that were read.
func TestReadIsWrittenAgain(t *testing.T) {
	chance := rand.New(rand.NewSource(2))
	for range 20000 {
		b := make([]byte, chance.Intn(60))
		for i := range b {
			if chance.Intn(3) == 0 {
				b[i] = byte(chance.Intn(256)) >> chance.Intn(8)
			}
		}
		text := string(b)
		r, w := xdr.Read(text), &xdr.Writer{}
		for r.Err() == api.OK && r.Left() > 0 {
			before := r.Left()
			list := agains(chance.Intn(9))
			list[chance.Intn(len(list))](r, w)
			if r.Err() != api.OK {
				if w.Text() != text[:len(text)-before] {
					t.Fatalf("of %q, %q was read ahead of the error", text, w.Text())
				}
				break
			}
			if w.Text()+text[len(text)-r.Left():] != text {
				t.Fatalf("of %q, %q was read, and %d bytes are left", text, w.Text(), r.Left())
			}
		}
	}
}

// P1: every call ends and none panics, whatever it is given.
func TestNoCallPanics(t *testing.T) {
	numbers := []int{math.MinInt, math.MinInt + 1, -1 << 32, -5, -1, 0, 1, 2, 3, 4, 5, 8, 1 << 20, 1<<20 + 1, 1<<31 - 1, 1 << 31, 1<<32 - 1, 1 << 32, math.MaxInt - 3, math.MaxInt - 1, math.MaxInt}
	texts := []string{"", "\x00", "\xff\xfe\xfd", "\xff\xff\xff\xff", "\x00\x00\x00\x03abc\x00", strings.Repeat("\xff", 99), strings.Repeat("\x00", 1<<20+1)}
	for _, w := range []*xdr.Writer{nil, {}} {
		for _, n := range numbers {
			w.U32(n)
			w.U64(n)
			w.Opt(api.Opt{Is: true, N: n})
			w.Opt(api.Opt{N: n})
			xdr.Pad(n)
		}
		for _, s := range texts {
			w.Fixed(s)
			w.Opaque(s)
		}
		if len(w.Text()) != w.Len() {
			t.Errorf("%d bytes, and Len is %d", len(w.Text()), w.Len())
		}
	}
	for _, s := range texts {
		for _, n := range numbers {
			for _, do := range agains(n) {
				for _, r := range []*xdr.Reader{nil, {}, xdr.Read(s)} {
					do(r, &xdr.Writer{})
					do(r, &xdr.Writer{})
					if r.Left() > len(s) || r.Left() > 0 && r.Done() != api.ErrMore {
						t.Errorf("Left %d of %d, Done %d", r.Left(), len(s), r.Done())
					}
				}
			}
		}
	}
}
