package attr_test

import (
	"math"
	"testing"

	"posthouse/api"
	"posthouse/attr"
	"posthouse/xdr"
)

// high is the highest 32-bit number.
const high = 1<<32 - 1

// some is attributes of which each number is another one, and someBytes their bytes.
func some() api.Attr {
	return api.Attr{Type: 2, Mode: 0o755, Nlink: 3, Uid: 0x01020304, Gid: 0x05060708, Size: 0x1112131415161718, Id: 0x090a0b0c, Gen: 0x2122232425262728, Change: 0x3132333435363738, Time: 0x4142434445464748}
}

const someBytes = "\x00\x00\x00\x02\x00\x00\x01\xed\x00\x00\x00\x03\x01\x02\x03\x04\x05\x06\x07\x08" +
	"\x11\x12\x13\x14\x15\x16\x17\x18\x09\x0a\x0b\x0c!\"#$%&'(12345678ABCDEFGH"

// least and most are the attributes of which each number is the least, and the most, that it may be.
func least() api.Attr { return api.Attr{Type: 1} }

func most() api.Attr {
	return api.Attr{Type: 7, Mode: 4095, Nlink: high, Uid: high, Gid: high, Size: math.MaxInt, Id: high, Gen: math.MaxInt, Change: math.MaxInt, Time: math.MaxInt}
}

const leastBytes = "\x00\x00\x00\x01" + zeros16 + zeros16 + zeros16 + "\x00\x00\x00\x00"

const mostBytes = "\x00\x00\x00\x07\x00\x00\x0f\xff\xff\xff\xff\xff\xff\xff\xff\xff\xff\xff\xff\xff\x7f\xff\xff\xff\xff\xff\xff\xff\xff\xff\xff\xff" +
	"\x7f\xff\xff\xff\xff\xff\xff\xff\x7f\xff\xff\xff\xff\xff\xff\xff\x7f\xff\xff\xff\xff\xff\xff\xff"

const zeros16 = "\x00\x00\x00\x00\x00\x00\x00\x00\x00\x00\x00\x00\x00\x00\x00\x00"

// yes and no are booleans' bytes, ahead of what is there and in place of what is not.
const (
	yes = "\x00\x00\x00\x01"
	no  = "\x00\x00\x00\x00"
)

// field is one number of attributes: where it is, what it may be and what it may not be.
type field struct {
	name string
	of   func(a *api.Attr) *int
	good []int
	bad  []int
}

func fields() []field {
	narrow, beyond := []int{0, 1, 4095, 4096, 1<<31 - 1, 1 << 31, high}, []int{-1, -2, math.MinInt, math.MinInt + 1, high + 1, high + 2, math.MaxInt, -high, -1 << 32}
	wide, below := []int{0, 1, high, high + 1, math.MaxInt - 1, math.MaxInt}, []int{-1, -2, math.MinInt, math.MinInt + 1, -1 << 32}
	return []field{
		{"Type", func(a *api.Attr) *int { return &a.Type }, []int{1, 2, 3, 4, 5, 6, 7}, []int{0, 8, -1, 9, -7, 255, high, high + 2, math.MinInt, math.MaxInt}},
		{"Mode", func(a *api.Attr) *int { return &a.Mode }, []int{0, 1, 0o777, 0o1000, 4094, 4095}, []int{-1, 4096, 4097, -4095, -4096, 8191, high, high + 1, math.MinInt, math.MaxInt}},
		{"Nlink", func(a *api.Attr) *int { return &a.Nlink }, narrow, beyond},
		{"Uid", func(a *api.Attr) *int { return &a.Uid }, narrow, beyond},
		{"Gid", func(a *api.Attr) *int { return &a.Gid }, narrow, beyond},
		{"Id", func(a *api.Attr) *int { return &a.Id }, narrow, beyond},
		{"Size", func(a *api.Attr) *int { return &a.Size }, wide, below},
		{"Gen", func(a *api.Attr) *int { return &a.Gen }, wide, below},
		{"Change", func(a *api.Attr) *int { return &a.Change }, wide, below},
		{"Time", func(a *api.Attr) *int { return &a.Time }, wide, below},
	}
}

// with is attributes with one number changed.
func with(a api.Attr, f field, n int) api.Attr {
	*f.of(&a) = n
	return a
}

// invalids is attributes of which one number, or each, is beyond what it may be.
func invalids() []api.Attr {
	list := []api.Attr{{}, {Type: -1, Mode: -1, Nlink: -1, Uid: -1, Gid: -1, Size: -1, Id: -1, Gen: -1, Change: -1, Time: -1}}
	for _, f := range fields() {
		for _, n := range f.bad {
			list = append(list, with(some(), f, n), with(least(), f, n), with(most(), f, n))
		}
	}
	return list
}

// P5.1: each number of attributes at its edges, with all others low, high and in between.
func TestCheck(t *testing.T) {
	for _, base := range []api.Attr{some(), least(), most()} {
		if err := attr.Check(base); err != api.OK {
			t.Errorf("Check(%v) = %d", base, err)
		}
		for _, f := range fields() {
			for _, n := range f.good {
				if err := attr.Check(with(base, f, n)); err != api.OK {
					t.Errorf("%s %d: error %d", f.name, n, err)
				}
			}
		}
	}
	for _, a := range invalids() {
		if err := attr.Check(a); err != api.ErrForm {
			t.Errorf("Check(%v) = %d, want ErrForm", a, err)
		}
	}
}

// form is how values of one kind are written and read.
type form[T any] struct {
	name string
	put  func(*xdr.Writer, T) api.Errno
	get  func(*xdr.Reader) (T, api.Errno)
}

func attrs() form[api.Attr] { return form[api.Attr]{"Attr", attr.Put, attr.Get} }
func posts() form[api.Post] { return form[api.Post]{"Post", attr.PutPost, attr.GetPost} }
func wccs() form[api.Wcc]   { return form[api.Wcc]{"Wcc", attr.PutWcc, attr.GetWcc} }
func sets() form[api.Set]   { return form[api.Set]{"Set", attr.PutSet, attr.GetSet} }

// pair is a value and its bytes.
type pair[T any] struct {
	value T
	bytes string
}

func attrPairs() []pair[api.Attr] {
	return []pair[api.Attr]{{some(), someBytes}, {least(), leastBytes}, {most(), mostBytes}}
}

func postPairs() []pair[api.Post] {
	list := []pair[api.Post]{{api.Post{}, no}}
	for _, p := range attrPairs() {
		list = append(list, pair[api.Post]{api.Post{Is: true, Attr: p.value}, yes + p.bytes})
	}
	return list
}

// optPairs is options with numbers of which each may be some number in a change of attributes.
func optPairs() []pair[api.Opt] {
	return []pair[api.Opt]{
		{api.Opt{}, no},
		{api.Opt{Is: true}, yes + "\x00\x00\x00\x00\x00\x00\x00\x00"},
		{api.Opt{Is: true, N: 7}, yes + "\x00\x00\x00\x00\x00\x00\x00\x07"},
		{api.Opt{Is: true, N: 4095}, yes + "\x00\x00\x00\x00\x00\x00\x0f\xff"},
	}
}

func wccPairs() []pair[api.Wcc] {
	before := append(optPairs(), pair[api.Opt]{api.Opt{Is: true, N: math.MaxInt}, yes + "\x7f\xff\xff\xff\xff\xff\xff\xff"})
	var list []pair[api.Wcc]
	for _, b := range before {
		for _, p := range postPairs() {
			list = append(list, pair[api.Wcc]{api.Wcc{Before: b.value, After: p.value}, b.bytes + p.bytes})
		}
	}
	return list
}

// P5.2, P5.3: what a value's bytes are, and which value bytes are.
func both[T comparable](t *testing.T, f form[T], pairs []pair[T]) {
	t.Helper()
	for _, p := range pairs {
		w := &xdr.Writer{}
		w.U32(9)
		if err := f.put(w, p.value); err != api.OK || w.Text() != "\x00\x00\x00\x09"+p.bytes {
			t.Errorf("%s %v is written as %x, error %d, want %x", f.name, p.value, w.Text(), err, p.bytes)
		}
		for _, behind := range []string{"", "\x00", "\xff\xff\xff\xff", p.bytes} {
			r := xdr.Read(p.bytes + behind)
			if v, err := f.get(r); v != p.value || err != api.OK || r.Left() != len(behind) || r.Err() != api.OK {
				t.Errorf("%s of %x, and %d bytes behind: %v, error %d, Left %d, want %v", f.name, p.bytes, len(behind), v, err, r.Left(), p.value)
			}
		}
		for n := range len(p.bytes) {
			fails(t, f, p.bytes[:n], api.ErrShort)
		}
	}
}

// fails tells of bytes of which nothing is read but an error.
func fails[T comparable](t *testing.T, f form[T], bytes string, want api.Errno) {
	t.Helper()
	var none T
	r := xdr.Read(bytes)
	if v, err := f.get(r); v != none || err != want {
		t.Errorf("%s of %x: %v, error %d, want error %d alone", f.name, bytes, v, err, want)
	}
}

func TestBytes(t *testing.T) {
	both(t, attrs(), attrPairs())
	both(t, posts(), postPairs())
	both(t, wccs(), wccPairs())
	both(t, sets(), setPairs())
	if len(someBytes) != 56 || len(leastBytes) != 56 || len(mostBytes) != 56 {
		t.Errorf("attributes of %d, %d and %d bytes", len(someBytes), len(leastBytes), len(mostBytes))
	}
}

// P5.2: a value that is not valid is refused, and nothing of it is written; without a writer that is told first.
func refused[T any](t *testing.T, f form[T], v T) {
	t.Helper()
	w := &xdr.Writer{}
	w.Opaque("ahead")
	was := w.Text()
	if err := f.put(w, v); err != api.ErrForm || w.Text() != was {
		t.Errorf("%s %v: error %d, and %x is written", f.name, v, err, w.Text())
	}
	if err := f.put(nil, v); err != api.ErrNil {
		t.Errorf("%s %v, without a writer: error %d", f.name, v, err)
	}
}

func TestInvalidAttributesAreRefused(t *testing.T) {
	for _, a := range invalids() {
		refused(t, attrs(), a)
		refused(t, posts(), api.Post{Is: true, Attr: a})
		refused(t, wccs(), api.Wcc{After: api.Post{Is: true, Attr: a}})
		refused(t, wccs(), api.Wcc{Before: api.Opt{Is: true, N: 5}, After: api.Post{Is: true, Attr: a}})
	}
}

// P5.2, P5.5: attributes that are not there are zero; others would not come back.
func TestAbsentAttributesAreZero(t *testing.T) {
	list := append(invalids(), some(), least(), most())
	for _, f := range fields() {
		list = append(list, with(api.Attr{}, f, 1), with(api.Attr{}, f, -1))
	}
	for _, a := range list {
		if a == (api.Attr{}) {
			continue
		}
		refused(t, posts(), api.Post{Attr: a})
		refused(t, wccs(), api.Wcc{After: api.Post{Attr: a}})
		refused(t, wccs(), api.Wcc{Before: api.Opt{Is: true, N: 5}, After: api.Post{Attr: a}})
	}
}

// P5.2: the Change before is a valid option.
func TestBeforeIsAnOption(t *testing.T) {
	for _, o := range []api.Opt{{Is: true, N: -1}, {Is: true, N: math.MinInt}, {N: -1}, {N: 1}, {N: math.MaxInt}, {N: math.MinInt}} {
		refused(t, wccs(), api.Wcc{Before: o})
		refused(t, wccs(), api.Wcc{Before: o, After: api.Post{Is: true, Attr: some()}})
	}
}

// P5.2, P5.3: valid values without a writer, and nothing to read from.
func TestNil(t *testing.T) {
	if err := attr.Put(nil, some()); err != api.ErrNil {
		t.Errorf("Put: %d", err)
	}
	if err := attr.PutPost(nil, api.Post{}); err != api.ErrNil {
		t.Errorf("PutPost: %d", err)
	}
	if err := attr.PutWcc(nil, api.Wcc{}); err != api.ErrNil {
		t.Errorf("PutWcc: %d", err)
	}
	if err := attr.PutSet(nil, api.Set{}); err != api.ErrNil {
		t.Errorf("PutSet: %d", err)
	}
	if a, err := attr.Get(nil); a != (api.Attr{}) || err != api.ErrNil {
		t.Errorf("Get: %v, %d", a, err)
	}
	if p, err := attr.GetPost(nil); p != (api.Post{}) || err != api.ErrNil {
		t.Errorf("GetPost: %v, %d", p, err)
	}
	if c, err := attr.GetWcc(nil); c != (api.Wcc{}) || err != api.ErrNil {
		t.Errorf("GetWcc: %v, %d", c, err)
	}
	if s, err := attr.GetSet(nil); s != (api.Set{}) || err != api.ErrNil {
		t.Errorf("GetSet: %v, %d", s, err)
	}
}

// worn is a reader that had an error, with bytes that would have been a value.
func worn(err api.Errno, bytes string) *xdr.Reader {
	r := xdr.Read("\x00\x00\x00\x02" + bytes)
	switch err {
	case api.ErrBool:
		r.Bool()
	case api.ErrLong:
		r.Opaque(1)
	case api.ErrArg:
		r.Fixed(-1)
	case api.ErrShort:
		r.Fixed(1 << 20)
	}
	return r
}

// P5.3: an error that the reader had before is told, whatever the bytes are.
func before[T comparable](t *testing.T, f form[T], bytes string) {
	t.Helper()
	var none T
	for _, want := range []api.Errno{api.ErrBool, api.ErrLong, api.ErrArg, api.ErrShort} {
		r := worn(want, bytes)
		if v, err := f.get(r); v != none || err != want || r.Err() != want {
			t.Errorf("%s behind error %d: %v, error %d", f.name, want, v, err)
		}
	}
}

func TestErrorsBefore(t *testing.T) {
	for _, bytes := range []string{"", no, someBytes, yes + someBytes, no + yes + someBytes, zeros16 + no, zeros16 + zeros16 + zeros16 + zeros16} {
		before(t, attrs(), bytes)
		before(t, posts(), bytes)
		before(t, wccs(), bytes)
		before(t, sets(), bytes)
	}
}

// bytes32 and bytes64 are a number's bytes.
func bytes32(n int) string {
	w := &xdr.Writer{}
	w.U32(n)
	return w.Text()
}

func bytes64(n int) string {
	w := &xdr.Writer{}
	w.U64(n)
	return w.Text()
}

// P5.3: numbers that are read and are not valid; no one of the others can be read and not be valid.
func TestReadAndNotValid(t *testing.T) {
	var list []string
	for _, n := range []int{0, 8, 9, 255, 1 << 24, 1 << 31, high} {
		list = append(list, bytes32(n)+someBytes[4:], bytes32(n)+leastBytes[4:], bytes32(n)+mostBytes[4:])
	}
	for _, n := range []int{4096, 4097, 8191, 1 << 24, 1 << 31, high} {
		list = append(list, someBytes[:4]+bytes32(n)+someBytes[8:], leastBytes[:4]+bytes32(n)+leastBytes[8:], mostBytes[:4]+bytes32(n)+mostBytes[8:])
	}
	for _, bytes := range list {
		fails(t, attrs(), bytes, api.ErrForm)
		fails(t, attrs(), bytes+"behind", api.ErrForm)
		fails(t, posts(), yes+bytes, api.ErrForm)
		fails(t, wccs(), no+yes+bytes, api.ErrForm)
		fails(t, wccs(), yes+bytes64(5)+yes+bytes, api.ErrForm)
		// What the reader meets behind a number that is not valid goes first.
		for _, n := range []int{len(bytes) - 1, len(bytes) - 8, 8} {
			fails(t, attrs(), bytes[:n], api.ErrShort)
			fails(t, posts(), yes+bytes[:n], api.ErrShort)
			fails(t, wccs(), no+yes+bytes[:n], api.ErrShort)
		}
		fails(t, attrs(), bytes[:len(bytes)-8]+"\x80\x00\x00\x00\x00\x00\x00\x00", api.ErrRange)
		fails(t, posts(), yes+bytes[:len(bytes)-8]+"\x80\x00\x00\x00\x00\x00\x00\x00", api.ErrRange)
	}
}

// P5.3: errors that the reader gets while it reads: 64-bit numbers above 2^63 - 1, and booleans that are none.
func TestErrorsWhileReading(t *testing.T) {
	for _, at := range []int{20, 32, 40, 48} {
		for _, wide := range []string{"\x80\x00\x00\x00\x00\x00\x00\x00", "\xff\xff\xff\xff\xff\xff\xff\xff"} {
			bytes := someBytes[:at] + wide + someBytes[at+8:]
			fails(t, attrs(), bytes, api.ErrRange)
			fails(t, posts(), yes+bytes, api.ErrRange)
			fails(t, wccs(), no+yes+bytes, api.ErrRange)
			fails(t, wccs(), yes+wide+yes+bytes, api.ErrRange)
		}
	}
	for _, neither := range []string{"\x00\x00\x00\x02", "\x01\x00\x00\x00", "\xff\xff\xff\xff", "\x00\x00\x01\x00"} {
		fails(t, posts(), neither+someBytes, api.ErrBool)
		fails(t, wccs(), neither+no, api.ErrBool)
		fails(t, wccs(), neither+bytes64(5)+no, api.ErrBool)
		fails(t, wccs(), no+neither+someBytes, api.ErrBool)
		fails(t, wccs(), yes+bytes64(5)+neither+someBytes, api.ErrBool)
	}
	fails(t, wccs(), yes+"\xff\xff\xff\xff\xff\xff\xff\xff"+"\x00\x00\x00\x02", api.ErrRange)
	fails(t, wccs(), yes+"\x00\x00\x00\x00", api.ErrShort)
}
