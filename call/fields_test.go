package call_test

import (
	"encoding/binary"
	"math"
	"strconv"
	"strings"
	"testing"

	"posthouse/api"
)

// value is what a field can have: how it is put there, its bytes if it is valid, and whether it is zero.
type value struct {
	name  string
	put   func(c *api.Call)
	bytes string
	valid bool
	zero  bool
}

// field is a field of calls, with values at its edges, valid ones and others.
type field struct {
	letter rune
	name   string
	values []value
}

func fields() []field {
	return []field{
		{'f', "Fh", texts(func(c *api.Call) *string { return &c.Fh }, 64)},
		{'n', "Name", texts(func(c *api.Call) *string { return &c.Name }, 255)},
		{'F', "Fh2", texts(func(c *api.Call) *string { return &c.Fh2 }, 64)},
		{'N', "Name2", texts(func(c *api.Call) *string { return &c.Name2 }, 255)},
		{'o', "Offset", numbers(func(c *api.Call) *int { return &c.Offset }, 8)},
		{'c', "Count", numbers(func(c *api.Call) *int { return &c.Count }, 4)},
		{'h', "How", numbers(func(c *api.Call) *int { return &c.How }, 4)},
		{'d', "Data", texts(func(c *api.Call) *string { return &c.Data }, 256)},
		{'s', "Set", sets()},
		{'g', "Guard", guards()},
		{'k', "Cookie", numbers(func(c *api.Call) *int { return &c.Cookie }, 8)},
		{'v', "Verf", numbers(func(c *api.Call) *int { return &c.Verf }, 8)},
		{'t', "Text", texts(func(c *api.Call) *string { return &c.Text }, 255)},
	}
}

// decimal is how a number is told of.
func decimal(n int) string { return strconv.Itoa(n) }

// bytes32 and bytes64 are numbers' bytes, and bytesText a string's.
func bytes32(n int) string { return string(binary.BigEndian.AppendUint32(nil, uint32(n))) }
func bytes64(n int) string { return string(binary.BigEndian.AppendUint64(nil, uint64(n))) }

func bytesText(s string) string {
	padded := s
	for len(padded)%4 > 0 {
		padded += "\x00"
	}
	return bytes32(len(s)) + padded
}

func bytesOpt(o api.Opt) string {
	if !o.Is {
		return no
	}
	return yes + bytes64(o.N)
}

func bytesSet(s api.Set) string {
	return bytesOpt(s.Mode) + bytesOpt(s.Uid) + bytesOpt(s.Gid) + bytesOpt(s.Size) + bytesOpt(s.Time)
}

// texts is strings for a field that may have so many bytes.
func texts(of func(c *api.Call) *string, most int) []value {
	list := []string{"", "a", "ab", "abc", "abcd", "abcde", "\x00", "\x00\x00\x00\x00", "a\x00", "\x00a", "\x7f\x80\xc3\xff", "\xff", "/", "..", "\u00e9\u4e16", "a b\n"}
	for _, n := range []int{63, 64, 65, 66, 67, 68, 254, 255, 256, 257, 258, 259, 260, 1000} {
		list = append(list, strings.Repeat("t", n), strings.Repeat("\x00", n))
	}
	list = append(list, strings.Repeat("t", 1<<20), strings.Repeat("t", 1<<20+1))
	var values []value
	for _, s := range list {
		values = append(values, value{
			name:  strconv.Quote(s[:min(len(s), 8)]) + " of so many bytes: " + decimal(len(s)),
			put:   func(c *api.Call) { *of(c) = s },
			bytes: bytesText(s),
			valid: len(s) <= most,
			zero:  s == "",
		})
	}
	return values
}

// numbers is numbers for a field of so many bytes.
func numbers(of func(c *api.Call) *int, size int) []value {
	var values []value
	for _, n := range []int{0, 1, 2, 255, 256, 65535, 65536, 1<<31 - 1, 1 << 31, high - 1, high, high + 1, high + 2, 1 << 33, math.MaxInt - 1, math.MaxInt, -1, -2, -high, -high - 1, -high - 2, math.MinInt, math.MinInt + 1} {
		v := value{name: decimal(n), put: func(c *api.Call) { *of(c) = n }, bytes: bytes32(n), valid: n >= 0 && n <= high, zero: n == 0}
		if size == 8 {
			v.bytes, v.valid = bytes64(n), n >= 0
		}
		values = append(values, v)
	}
	return values
}

// guards is options for Guard.
func guards() []value {
	var values []value
	for _, n := range []int{0, 1, 2, 255, 4095, 4096, high, high + 1, math.MaxInt, -1, -2, math.MinInt} {
		for _, is := range []bool{false, true} {
			o := api.Opt{Is: is, N: n}
			v := value{name: "not there: " + decimal(n), put: func(c *api.Call) { c.Guard = o }, bytes: bytesOpt(o), valid: n == 0, zero: n == 0}
			if is {
				v.name, v.valid, v.zero = "there: "+decimal(n), n >= 0, false
			}
			values = append(values, v)
		}
	}
	return values
}

// sets is changes: without options, with one alone at its edges, with all of them.
func sets() []value {
	options := []struct {
		name string
		of   func(s *api.Set) *api.Opt
		most int
	}{
		{"Mode", func(s *api.Set) *api.Opt { return &s.Mode }, 4095},
		{"Uid", func(s *api.Set) *api.Opt { return &s.Uid }, high},
		{"Gid", func(s *api.Set) *api.Opt { return &s.Gid }, high},
		{"Size", func(s *api.Set) *api.Opt { return &s.Size }, math.MaxInt},
		{"Time", func(s *api.Set) *api.Opt { return &s.Time }, math.MaxInt},
	}
	values := []value{{name: "none", put: func(c *api.Call) { c.Set = api.Set{} }, bytes: bytesSet(api.Set{}), valid: true, zero: true}}
	add := func(name string, s api.Set, valid bool) {
		values = append(values, value{name: name, put: func(c *api.Call) { c.Set = s }, bytes: bytesSet(s), valid: valid, zero: s == api.Set{}})
	}
	all := api.Set{}
	for i, o := range options {
		*o.of(&all) = api.Opt{Is: true, N: i + 1}
		for _, n := range []int{0, 1, 4094, 4095, 4096, high, high + 1, math.MaxInt, -1, math.MinInt} {
			s := api.Set{}
			*o.of(&s) = api.Opt{Is: true, N: n}
			add(o.name+" "+decimal(n), s, n >= 0 && n <= o.most)
			*o.of(&s) = api.Opt{N: n}
			add(o.name+" not there: "+decimal(n), s, n == 0)
		}
	}
	add("all", all, true)
	for _, o := range options {
		s := all
		*o.of(&s) = api.Opt{Is: true, N: -1}
		add("all, and "+o.name+" below 0", s, false)
		*o.of(&s) = api.Opt{}
		add("all but "+o.name, s, true)
	}
	return values
}

// has tells whether the calls of a procedure have that field.
func (f field) has(proc int) bool { return strings.ContainsRune(layout(proc), f.letter) }

// swapped is the bytes of a call in which one field has other bytes.
func swapped(p pair, f field, bytes string) string {
	all := ""
	for _, letter := range layout(p.call.Proc) {
		if letter == f.letter {
			all += bytes
			continue
		}
		all += fieldBytes(p.call, letter)
	}
	return all
}

// fieldBytes is the bytes of one field of a call.
func fieldBytes(c api.Call, letter rune) string {
	switch letter {
	case 'f':
		return bytesText(c.Fh)
	case 'n':
		return bytesText(c.Name)
	case 'F':
		return bytesText(c.Fh2)
	case 'N':
		return bytesText(c.Name2)
	case 'o':
		return bytes64(c.Offset)
	case 'c':
		return bytes32(c.Count)
	case 'h':
		return bytes32(c.How)
	case 'd':
		return bytesText(c.Data)
	case 's':
		return bytesSet(c.Set)
	case 'g':
		return bytesOpt(c.Guard)
	case 'k':
		return bytes64(c.Cookie)
	case 'v':
		return bytes64(c.Verf)
	}
	return bytesText(c.Text)
}

// P7.2, P7.3, P7.4: each field that a procedure has, at its edges, with all others zero, and with others that are not.
func TestFieldsThatAreThere(t *testing.T) {
	list := fields()
	for _, p := range append(ordinary(), empties()...) {
		for _, f := range list {
			if !f.has(p.call.Proc) {
				continue
			}
			for _, v := range f.values {
				c := p.call
				v.put(&c)
				if v.valid {
					holds(t, f.name+" "+v.name, pair{c, swapped(p, f, v.bytes)})
					continue
				}
				refused(t, f.name+" "+v.name, c, api.ErrForm)
			}
		}
	}
}

// P7.2: each field that a procedure does not have, with zero, and with any other value, be it valid elsewhere or not.
func TestFieldsThatAreNotThere(t *testing.T) {
	list := fields()
	for _, p := range append(ordinary(), empties()...) {
		for _, f := range list {
			if f.has(p.call.Proc) {
				continue
			}
			for _, v := range f.values {
				c := p.call
				v.put(&c)
				if v.zero {
					holds(t, f.name+" that is not there", pair{c, p.bytes})
					continue
				}
				refused(t, f.name+" "+v.name, c, api.ErrForm)
			}
		}
	}
}

// P7.2: two fields that are not valid, one of them left out of the bytes, do not make up for each other.
func TestTwoFieldsThatAreNotValid(t *testing.T) {
	list := fields()
	for _, p := range append(ordinary(), empties()...) {
		for _, f := range list {
			for _, g := range list {
				for _, v := range edgeOf(f, p.call.Proc) {
					for _, w := range edgeOf(g, p.call.Proc) {
						c := p.call
						v.put(&c)
						w.put(&c)
						refused(t, f.name+" and "+g.name, c, api.ErrForm)
					}
				}
			}
		}
	}
}

// edgeOf is a few values of a field that are not valid in a procedure's calls.
func edgeOf(f field, proc int) []value {
	var list []value
	for _, v := range f.values {
		if (!v.valid || !v.zero && !f.has(proc)) && len(v.bytes) < 100 {
			list = append(list, v)
		}
	}
	return list[:min(len(list), 3)]
}
