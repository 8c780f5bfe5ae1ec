package reply_test

import (
	"math"
	"strconv"
	"strings"
	"testing"

	"posthouse/api"
)

// value is what a field can have: how it is put there, its bytes if it is valid, and whether it is zero.
type value struct {
	name  string
	put   func(r *api.Reply)
	bytes string
	valid bool
	zero  bool
}

// field is a field of results as one of its letters has it, with values at its edges, valid ones and others; in is all letters of the same field.
type field struct {
	letter rune
	in     string
	name   string
	values []value
}

func fields() []field {
	return []field{
		{'h', "h", "Fh", texts(func(r *api.Reply) *string { return &r.Fh }, 64)},
		{'a', "a", "Obj", posts(func(r *api.Reply) *api.Post { return &r.Obj })},
		{'D', "D", "Dir", posts(func(r *api.Reply) *api.Post { return &r.Dir })},
		{'w', "w", "Wcc", wccs(func(r *api.Reply) *api.Wcc { return &r.Wcc })},
		{'W', "W", "Wcc2", wccs(func(r *api.Reply) *api.Wcc { return &r.Wcc2 })},
		{'x', "x", "Access", numbers(func(r *api.Reply) *int { return &r.Access }, 4)},
		{'c', "c", "Count", numbers(func(r *api.Reply) *int { return &r.Count }, 4)},
		{'e', "e", "Eof", booleans()},
		{'d', "d", "Data", texts(func(r *api.Reply) *string { return &r.Data }, 256)},
		{'s', "s", "Stable", numbers(func(r *api.Reply) *int { return &r.Stable }, 4)},
		{'v', "v", "Verf", numbers(func(r *api.Reply) *int { return &r.Verf }, 8)},
		{'l', "lp", "Entries", entries(false)},
		{'p', "lp", "Entries, all", entries(true)},
		{'n', "n", "Nums", nums()},
	}
}

// has tells whether results of a procedure have that field by that letter, and lacks whether they have it by none.
func (f field) has(proc int, fine bool) bool {
	return strings.ContainsRune(layout(proc, fine), f.letter)
}

func (f field) lacks(proc int, fine bool) bool {
	return !strings.ContainsAny(layout(proc, fine), f.in)
}

// decimal is how a number is told of.
func decimal(n int) string { return strconv.Itoa(n) }

// oddTexts is strings of few bytes, and longTexts strings about as long as fields may be, and longer.
func oddTexts() []string {
	return []string{"", "a", "ab", "abc", "abcd", "abcde", "\x00", "\x00\x00\x00\x00", "a\x00", "\x00a", "\x7f\x80\xc3\xff", "\xff", "/", "..", "\u00e9\u4e16", "a b\n"}
}

func longTexts() []string {
	var list []string
	for _, n := range []int{63, 64, 65, 66, 67, 68, 254, 255, 256, 257, 258, 259, 260, 1000} {
		list = append(list, strings.Repeat("t", n), strings.Repeat("\x00", n))
	}
	return append(list, strings.Repeat("t", 1<<20), strings.Repeat("t", 1<<20+1))
}

func textName(s string) string {
	return strconv.Quote(s[:min(len(s), 8)]) + " of so many bytes: " + decimal(len(s))
}

// texts is strings for a field that may have so many bytes.
func texts(of func(r *api.Reply) *string, most int) []value {
	var values []value
	for _, s := range append(oddTexts(), longTexts()...) {
		values = append(values, value{textName(s), func(r *api.Reply) { *of(r) = s }, bytesText(s), len(s) <= most, s == ""})
	}
	return values
}

// anyNumbers is numbers about the edges of 32-bit and 64-bit numbers.
func anyNumbers() []int {
	return []int{0, 1, 2, 255, 256, 65535, 65536, 1<<31 - 1, 1 << 31, high - 1, high, high + 1, high + 2, 1 << 33, math.MaxInt - 1, math.MaxInt, -1, -2, -high, -high - 1, -high - 2, math.MinInt, math.MinInt + 1}
}

// numbers is numbers for a field of so many bytes.
func numbers(of func(r *api.Reply) *int, size int) []value {
	var values []value
	for _, n := range anyNumbers() {
		v := value{decimal(n), func(r *api.Reply) { *of(r) = n }, bytes32(n), n >= 0 && n <= high, n == 0}
		if size == 8 {
			v.bytes, v.valid = bytes64(n), n >= 0
		}
		values = append(values, v)
	}
	return values
}

func booleans() []value {
	return []value{
		{"false", func(r *api.Reply) { r.Eof = false }, no, true, true},
		{"true", func(r *api.Reply) { r.Eof = true }, yes, true, false},
	}
}

// postCase is attributes that are there or not, and whether they are valid.
type postCase struct {
	name  string
	post  api.Post
	valid bool
}

func postCases() []postCase {
	cases := []postCase{
		{"none", api.Post{}, true},
		{"a file", there(anAttr()), true},
		{"a directory", there(aDir()), true},
		{"zero ones there", there(api.Attr{}), false},
		{"a file, not there", api.Post{Attr: anAttr()}, false},
	}
	for _, p := range []struct {
		name string
		of   func(a *api.Attr) *int
		low  int
		most int
	}{
		{"Type", func(a *api.Attr) *int { return &a.Type }, 1, 7},
		{"Mode", func(a *api.Attr) *int { return &a.Mode }, 0, 4095},
		{"Nlink", func(a *api.Attr) *int { return &a.Nlink }, 0, high},
		{"Uid", func(a *api.Attr) *int { return &a.Uid }, 0, high},
		{"Gid", func(a *api.Attr) *int { return &a.Gid }, 0, high},
		{"Size", func(a *api.Attr) *int { return &a.Size }, 0, math.MaxInt},
		{"Id", func(a *api.Attr) *int { return &a.Id }, 0, high},
		{"Gen", func(a *api.Attr) *int { return &a.Gen }, 0, math.MaxInt},
		{"Change", func(a *api.Attr) *int { return &a.Change }, 0, math.MaxInt},
		{"Time", func(a *api.Attr) *int { return &a.Time }, 0, math.MaxInt},
	} {
		for _, n := range []int{math.MinInt, -1, 0, 1, 7, 8, 4095, 4096, high, high + 1, math.MaxInt} {
			a, alone := anAttr(), api.Attr{}
			*p.of(&a), *p.of(&alone) = n, n
			cases = append(cases,
				postCase{p.name + " " + decimal(n), there(a), n >= p.low && n <= p.most},
				postCase{p.name + " alone, not there: " + decimal(n), api.Post{Attr: alone}, n == 0})
		}
	}
	return cases
}

// posts is attributes, there or not, for a field.
func posts(of func(r *api.Reply) *api.Post) []value {
	var values []value
	for _, c := range postCases() {
		values = append(values, value{c.name, func(r *api.Reply) { *of(r) = c.post }, bytesPost(c.post), c.valid, c.post == api.Post{}})
	}
	return values
}

// wccs is what was ahead of a call and behind it, for a field.
func wccs(of func(r *api.Reply) *api.Wcc) []value {
	var values []value
	add := func(name string, c api.Wcc, valid bool) {
		values = append(values, value{name, func(r *api.Reply) { *of(r) = c }, bytesWcc(c), valid, c == api.Wcc{}})
	}
	for _, after := range []api.Post{{}, there(aDir())} {
		for _, n := range []int{0, 1, 256, high, high + 1, math.MaxInt, -1, math.MinInt} {
			add("ahead: "+decimal(n), api.Wcc{Before: api.Opt{Is: true, N: n}, After: after}, n >= 0)
			add("ahead, not there: "+decimal(n), api.Wcc{Before: api.Opt{N: n}, After: after}, n == 0)
		}
	}
	for _, before := range []api.Opt{{}, {Is: true}, {Is: true, N: math.MaxInt}} {
		for _, c := range postCases() {
			add("behind: "+c.name, api.Wcc{Before: before, After: c.post}, c.valid)
		}
	}
	return values
}

// entry is an entry as any list can have it.
func entry(n int) api.Entry {
	return api.Entry{Gen: n, Name: "e" + decimal(n), Cookie: n * n}
}

// entries is lists of entries, without all fields or with them.
func entries(plus bool) []value {
	var values []value
	add := func(name string, valid bool, list ...api.Entry) {
		values = append(values, value{name, func(r *api.Reply) { r.Entries = list }, bytesEntries(list, plus), valid, len(list) == 0})
	}
	one := func(name string, valid bool, set func(e *api.Entry)) {
		e, full := api.Entry{}, entry(3)
		set(&e)
		set(&full)
		add(name+", alone", valid, e)
		add(name+", first", valid, full, entry(1), entry(2))
		add(name+", last", valid, entry(1), entry(2), full)
	}
	add("nil", true)
	values = append(values, value{"empty", func(r *api.Reply) { r.Entries = []api.Entry{} }, no, true, true})
	for _, n := range []int{1, 2, 63, 64, 65, 66, 128, 1000} {
		add("zero ones: "+decimal(n), n <= 64, make([]api.Entry, n)...)
		list := make([]api.Entry, n)
		for i := range list {
			list[i] = entry(i)
			if plus {
				list[i].Attr, list[i].Fh = there(anAttr()), strings.Repeat("f", i%65)
			}
		}
		add("so many: "+decimal(n), n <= 64, list...)
	}
	for _, n := range anyNumbers() {
		one("Gen "+decimal(n), n >= 0, func(e *api.Entry) { e.Gen = n })
		one("Cookie "+decimal(n), n >= 0, func(e *api.Entry) { e.Cookie = n })
	}
	for _, s := range append(oddTexts(), longTexts()...) {
		one("Name "+textName(s), len(s) <= 255, func(e *api.Entry) { e.Name = s })
		one("Fh "+textName(s), len(s) <= 64 && plus || s == "", func(e *api.Entry) { e.Fh = s })
	}
	for _, c := range postCases() {
		one("Attr "+c.name, c.valid && plus || c.post == api.Post{}, func(e *api.Entry) { e.Attr = c.post })
	}
	return values
}

// nums is lists of numbers.
func nums() []value {
	var values []value
	add := func(name string, valid bool, list ...int) {
		values = append(values, value{name, func(r *api.Reply) { r.Nums = list }, bytesNums(list), valid, len(list) == 0})
	}
	add("nil", true)
	values = append(values, value{"empty", func(r *api.Reply) { r.Nums = []int{} }, no, true, true})
	for _, n := range []int{1, 2, 15, 16, 17, 18, 32, 64, 1000} {
		add("zero ones: "+decimal(n), n <= 16, make([]int, n)...)
		list := make([]int, n)
		for i := range list {
			list[i] = i + 1
		}
		add("so many: "+decimal(n), n <= 16, list...)
	}
	for _, n := range anyNumbers() {
		add(decimal(n)+" alone", n >= 0, n)
		add(decimal(n)+" first", n >= 0, n, 1, 2)
		add(decimal(n)+" last", n >= 0, append(make([]int, 15), n)...)
	}
	return values
}

// swapped is the bytes of results in which one field has other bytes.
func swapped(g given, f field, bytes string) string {
	all := g.bytes[:4]
	for _, letter := range layout(g.proc, g.reply.Status == api.StOK) {
		if letter == f.letter {
			all += bytes
			continue
		}
		all += fieldBytes(g.reply, letter)
	}
	return all
}

// P8.2, P8.3, P8.5: each field that results have, at its edges, with all others zero, and with others that are not.
func TestFieldsThatAreThere(t *testing.T) {
	list := fields()
	for _, g := range append(ordinary(), empties()...) {
		for _, f := range list {
			if !f.has(g.proc, g.reply.Status == api.StOK) {
				continue
			}
			for _, v := range f.values {
				r := g.reply
				v.put(&r)
				if v.valid {
					holds(t, f.name+" "+v.name, given{g.proc, r, swapped(g, f, v.bytes)})
					continue
				}
				refused(t, f.name+" "+v.name, g.proc, r, api.ErrForm)
			}
			if t.Failed() {
				t.FailNow()
			}
		}
	}
}

// P8.2: each field that results do not have, with zero, and with any other value, be it valid elsewhere or not.
func TestFieldsThatAreNotThere(t *testing.T) {
	list := fields()
	for _, g := range append(ordinary(), empties()...) {
		for _, f := range list {
			if !f.lacks(g.proc, g.reply.Status == api.StOK) {
				continue
			}
			for _, v := range f.values {
				r := g.reply
				v.put(&r)
				if v.zero {
					holds(t, f.name+" that is not there", given{g.proc, r, g.bytes})
					continue
				}
				refused(t, f.name+" "+v.name, g.proc, r, api.ErrForm)
			}
			if t.Failed() {
				t.FailNow()
			}
		}
	}
}

// P8.2: two fields that are not valid, one of them left out of the bytes, do not make up for each other.
func TestTwoFieldsThatAreNotValid(t *testing.T) {
	list := fields()
	for _, g := range append(ordinary(), empties()...) {
		edges := map[string][]value{}
		for _, f := range list {
			edges[f.in] = append(edges[f.in], edgesOf(f, g)...)
		}
		for in, some := range edges {
			for other, more := range edges {
				if in == other {
					continue // they would stand in the same place
				}
				for _, v := range some {
					for _, w := range more {
						r := g.reply
						v.put(&r)
						w.put(&r)
						refused(t, v.name+" of "+in+" and "+w.name+" of "+other, g.proc, r, api.ErrForm)
					}
				}
			}
		}
	}
}

// edgesOf is a few values of a field that are not valid in such results.
func edgesOf(f field, g given) []value {
	fine := g.reply.Status == api.StOK
	var list []value
	for _, v := range f.values {
		wrong := f.has(g.proc, fine) && !v.valid || f.lacks(g.proc, fine) && !v.zero
		if wrong && len(v.bytes) < 100 && len(list) < 3 {
			list = append(list, v)
		}
	}
	return list
}
