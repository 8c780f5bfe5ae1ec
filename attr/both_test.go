package attr_test

import (
	"math"
	"math/rand"
	"testing"

	"posthouse/api"
	"posthouse/attr"
	"posthouse/xdr"
)

// up is a number from 0 to most, of any size, and often at the edges.
func up(chance *rand.Rand, most int) int {
	switch chance.Intn(8) {
	case 0:
		return most
	case 1:
		return 0
	}
	return min(chance.Int()>>chance.Intn(63), most)
}

func anyAttr(chance *rand.Rand) api.Attr {
	return api.Attr{
		Type: 1 + chance.Intn(7), Mode: up(chance, 4095), Nlink: up(chance, high), Uid: up(chance, high), Gid: up(chance, high), Id: up(chance, high),
		Size: up(chance, math.MaxInt), Gen: up(chance, math.MaxInt), Change: up(chance, math.MaxInt), Time: up(chance, math.MaxInt),
	}
}

func anyOpt(chance *rand.Rand, most int) api.Opt {
	if chance.Intn(2) == 0 {
		return api.Opt{}
	}
	return api.Opt{Is: true, N: up(chance, most)}
}

func anyPost(chance *rand.Rand) api.Post {
	if chance.Intn(3) == 0 {
		return api.Post{}
	}
	return api.Post{Is: true, Attr: anyAttr(chance)}
}

func anyWcc(chance *rand.Rand) api.Wcc {
	return api.Wcc{Before: anyOpt(chance, math.MaxInt), After: anyPost(chance)}
}

func anySet(chance *rand.Rand) api.Set {
	return api.Set{Mode: anyOpt(chance, 4095), Uid: anyOpt(chance, high), Gid: anyOpt(chance, high), Size: anyOpt(chance, math.MaxInt), Time: anyOpt(chance, math.MaxInt)}
}

// written writes a value and answers how it is to be read back.
func written[T comparable](t *testing.T, f form[T], w *xdr.Writer, v T) func(*xdr.Reader) {
	if err := f.put(w, v); err != api.OK {
		t.Fatalf("%s %v: error %d", f.name, v, err)
	}
	return func(r *xdr.Reader) {
		if got, err := f.get(r); got != v || err != api.OK {
			t.Fatalf("%s: read %v, error %d, want %v", f.name, got, err, v)
		}
	}
}

// P5.5: what is written is read back, and nothing is left.
func TestWrittenIsReadBack(t *testing.T) {
	chance := rand.New(rand.NewSource(1))
	for range 5000 {
		w := &xdr.Writer{}
		var back []func(*xdr.Reader)
		for range chance.Intn(6) {
			back = append(back,
				written(t, attrs(), w, anyAttr(chance)),
				written(t, posts(), w, anyPost(chance)),
				written(t, wccs(), w, anyWcc(chance)),
				written(t, sets(), w, anySet(chance)))
		}
		r := xdr.Read(w.Text())
		for _, get := range back {
			get(r)
		}
		if r.Done() != api.OK {
			t.Fatalf("Done %d, Left %d", r.Done(), r.Left())
		}
	}
}

// again reads a value from any bytes; what is read is written as the bytes that were read.
func again[T comparable](t *testing.T, f form[T], bytes string) bool {
	var none T
	r, w := xdr.Read(bytes), &xdr.Writer{}
	v, err := f.get(r)
	if err != api.OK {
		if v != none {
			t.Fatalf("%s of %x: %v, error %d", f.name, bytes, v, err)
		}
		return false
	}
	if err := f.put(w, v); err != api.OK || w.Text()+bytes[len(bytes)-r.Left():] != bytes {
		t.Fatalf("%s of %x: %v is written as %x, error %d", f.name, bytes, v, w.Text(), err)
	}
	return true
}

// P5.3, P5.5: what is read from any bytes is valid, and has the bytes that were read.
func TestReadIsWrittenAgain(t *testing.T) {
	chance := rand.New(rand.NewSource(2))
	read := [4]int{}
	for range 200000 {
		bytes := ""
		for range chance.Intn(20) {
			bytes += []string{no, yes, yes, no, "\x00\x00\x00\x02", "\x00\x00\x0f\xff", "\x00\x00\x10\x00", "\xff\xff\xff\xff", "\x7f\xff\xff\xff", "\x00"}[chance.Intn(10)]
		}
		for i, is := range []bool{again(t, attrs(), bytes), again(t, posts(), bytes), again(t, wccs(), bytes), again(t, sets(), bytes)} {
			if is {
				read[i]++
			}
		}
	}
	for i, n := range read {
		if n == 0 {
			t.Errorf("no bytes of kind %d were tried", i)
		}
	}
}

// P1: every call ends and none panics, whatever it is given.
func TestNoCallPanics(t *testing.T) {
	numbers := []int{math.MinInt, math.MinInt + 1, -1 << 32, -1, 0, 1, 7, 8, 4095, 4096, high, high + 1, math.MaxInt - 1, math.MaxInt}
	for _, n := range numbers {
		a := api.Attr{Type: n, Mode: n, Nlink: n, Uid: n, Gid: n, Size: n, Id: n, Gen: n, Change: n, Time: n}
		for _, is := range []bool{false, true} {
			o := api.Opt{Is: is, N: n}
			p, s := api.Post{Is: is, Attr: a}, api.Set{Mode: o, Uid: o, Gid: o, Size: o, Time: o}
			attr.Check(a)
			attr.CheckSet(s)
			attr.Empty(s)
			for _, now := range numbers {
				attr.Apply(a, s, now)
			}
			for _, w := range []*xdr.Writer{nil, {}} {
				attr.Put(w, a)
				attr.PutPost(w, p)
				attr.PutWcc(w, api.Wcc{Before: o, After: p})
				attr.PutSet(w, s)
			}
		}
	}
	for _, bytes := range []string{"", "\x00", "\xff", someBytes, yes + someBytes, no + yes + someBytes, zeros16 + zeros16} {
		for _, r := range []*xdr.Reader{nil, {}, xdr.Read(bytes)} {
			attr.Get(r)
			attr.GetPost(r)
			attr.GetWcc(r)
			attr.GetSet(r)
		}
	}
}
