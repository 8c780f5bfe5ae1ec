package reply_test

import (
	"strings"
	"testing"

	"posthouse/api"
	"posthouse/reply"
)

// P8.3, P8.5: bytes cut at each place, and bytes behind.
func TestCutAndFollowed(t *testing.T) {
	for _, g := range append(ordinary(), empties()...) {
		for n := range len(g.bytes) {
			fails(t, "cut", g.proc, g.bytes[:n], api.ErrForm)
		}
		for _, more := range []string{"\x00", "\x01", "\x00\x00", "\x00\x00\x00", no, yes, "\xff\xff\xff\xff", no + no, h, string(make([]byte, 1000)), g.bytes} {
			fails(t, "followed", g.proc, g.bytes+more, api.ErrForm)
		}
		fails(t, "behind zero bytes", g.proc, no+g.bytes, api.ErrForm)
	}
}

// P8.3: no bytes are the results of nothing.
func TestNoBytes(t *testing.T) {
	for proc := range procs {
		fails(t, "no bytes", proc, "", api.ErrForm)
	}
}

// P8.3: wrong bytes in the place of each field, between all others as they are.
func TestWrongBytes(t *testing.T) {
	list := fields()
	for _, g := range append(ordinary(), empties()...) {
		for _, f := range list {
			if !f.has(g.proc, g.reply.Status == api.StOK) {
				continue
			}
			for _, bytes := range wrong(f.letter) {
				fails(t, f.name, g.proc, swapped(g, f, bytes), api.ErrForm)
			}
		}
	}
}

// wrong is bytes that no valid value of a field has.
func wrong(letter rune) []string {
	switch letter {
	case 'h':
		return wrongTexts(64)
	case 'd':
		return wrongTexts(256)
	case 'a', 'D':
		return wrongPosts()
	case 'w', 'W':
		return wrongWccs()
	case 'e':
		return wrongBooleans()
	case 'v':
		return wrongWides()
	case 'l', 'p':
		return wrongEntries(letter == 'p')
	case 'n':
		return wrongNums()
	}
	return nil // any four bytes are a 32-bit number
}

func wrongWides() []string {
	return []string{"\x80\x00\x00\x00\x00\x00\x00\x00", "\x80\x00\x00\x00\x00\x00\x00\x05", "\xff\xff\xff\xff\xff\xff\xff\xff"}
}

func wrongBooleans() []string {
	return []string{"\x00\x00\x00\x02", "\x00\x00\x00\xff", "\x00\x00\x01\x00", "\x00\x01\x00\x01", "\x01\x00\x00\x00", "\x80\x00\x00\x01", "\xff\xff\xff\xff"}
}

// wrongTexts is strings with wrong padding, with more bytes than there may be, and with lengths beyond the end.
func wrongTexts(most int) []string {
	list := []string{
		"\x00\x00\x00\x01a\x01\x00\x00", "\x00\x00\x00\x01a\x00\x01\x00", "\x00\x00\x00\x01a\x00\x00\x01", "\x00\x00\x00\x01a\xff\xff\xff",
		"\x00\x00\x00\x02ab\x80\x00", "\x00\x00\x00\x02ab\x00\x80", "\x00\x00\x00\x03abc ", "\x00\x00\x00\x05abcde\x00\x00\xff",
		"\x00\x00\x10\x00abcd", "\x7f\xff\xff\xffabcd", "\x80\x00\x00\x00", "\x80\x00\x00\x04abcd", "\xff\xff\xff\xff", "\xff\xff\xff\xffabcd",
	}
	for _, n := range []int{most + 1, most + 2, most + 3, most + 4, most + 5, 1000, 5000} {
		list = append(list, bytesText(strings.Repeat("a", n)), bytesText(string(make([]byte, n))), bytes32(n))
	}
	return append(list, bytes32(most)+strings.Repeat("a", most-1), bytes32(most)+strings.Repeat("a", most/4*4-4))
}

// wrongPosts is attributes with wrong booleans, and with one number above what it may be, or Type 0.
func wrongPosts() []string {
	var list []string
	for _, is := range wrongBooleans() {
		list = append(list, is, is+attr1)
	}
	change := func(set func(a *api.Attr)) {
		a := anAttr()
		set(&a)
		list = append(list, yes+bytesAttr(a))
	}
	for _, n := range []int{0, 8, 9, 255, 256, high} {
		change(func(a *api.Attr) { a.Type = n })
	}
	for _, n := range []int{4096, 4097, 8192, 65536, high} {
		change(func(a *api.Attr) { a.Mode = n })
	}
	// What is below 0 has the bytes of 2^63 and above.
	for _, n := range []int{-1, -1 << 63, -1<<63 + 5} {
		change(func(a *api.Attr) { a.Size = n })
		change(func(a *api.Attr) { a.Gen = n })
		change(func(a *api.Attr) { a.Change = n })
		change(func(a *api.Attr) { a.Time = n })
	}
	return append(list, yes+string(make([]byte, len(attr1))), no+attr1, attr1)
}

func wrongWccs() []string {
	var list []string
	for _, is := range wrongBooleans() {
		list = append(list, is+obj, is+bytes64(5)+obj)
	}
	for _, n := range wrongWides() {
		list = append(list, yes+n+obj, yes+n+no)
	}
	for _, post := range wrongPosts() {
		list = append(list, no+post, yes+wide+post)
	}
	return list
}

// counted is a list of some elements, as many as are told or not.
func counted(n int, elements ...string) string {
	return bytes32(n) + strings.Join(elements, "")
}

// wrongLists is lists with so many equal elements: too many, more than told, fewer than told, and of lengths beyond any end.
func wrongLists(element string, most int) []string {
	var list []string
	for _, n := range []int{most + 1, most + 2, 2 * most, 256, 1000} {
		list = append(list, bytes32(n)+strings.Repeat(element, n), bytes32(n)+strings.Repeat(element, most), bytes32(n))
	}
	for _, n := range []int{0, 1, 2, most - 1, most} {
		list = append(list, bytes32(n)+strings.Repeat(element, n+1))
		if n > 0 {
			list = append(list, bytes32(n)+strings.Repeat(element, n-1))
		}
	}
	for _, length := range []string{"\x7f\xff\xff\xff", "\x80\x00\x00\x00", "\x80\x00\x00\x01", "\x01\x00\x00\x00", "\x00\x01\x00\x01", "\xff\xff\xff\xff"} {
		list = append(list, length, length+element, length+strings.Repeat(element, most))
	}
	return list
}

// wrongEntries is lists of too many entries, or too few, and lists with one entry that is wrong.
func wrongEntries(plus bool) []string {
	tail := ""
	if plus {
		tail = obj + h
	}
	right := n256 + text + wide + tail
	list := wrongLists(right, 64)
	one := func(entry string) {
		list = append(list, counted(1, entry), counted(3, entry, right, right), counted(3, right, right, entry))
	}
	for _, n := range wrongWides() {
		one(n + text + wide + tail)
		one(n256 + text + n + tail)
	}
	for _, s := range wrongTexts(255) {
		one(n256 + s + wide + tail)
	}
	if !plus {
		one(right + no + no)
		return append(list, counted(1, right+obj+h))
	}
	for _, post := range wrongPosts() {
		one(n256 + text + wide + post + h)
	}
	for _, s := range wrongTexts(64) {
		one(n256 + text + wide + obj + s)
	}
	return append(list, counted(1, n256+text+wide))
}

// wrongNums is lists of too many numbers, or too few, and lists with one that is wrong.
func wrongNums() []string {
	list := wrongLists(wide, 16)
	for _, n := range wrongWides() {
		list = append(list, counted(1, n), counted(3, n, wide, wide), counted(3, wide, wide, n))
	}
	return append(list, counted(1, no), counted(2, wide, no))
}

// P8.3: the bytes of each procedure's results, read as another procedure's: the same fields if both have the same ones, the other ones if these have the same form, or no results.
func TestBytesOfAnother(t *testing.T) {
	form := func(proc int, is bool) string { return strings.ReplaceAll(layout(proc, is), "D", "a") }
	for _, g := range ordinary() {
		is := g.reply.Status == api.StOK
		for proc := range procs {
			r := g.reply
			if form(proc, is) != form(g.proc, is) {
				fails(t, "bytes of "+decimal(g.proc), proc, g.bytes, api.ErrForm)
				continue
			}
			if layout(proc, is) != layout(g.proc, is) {
				r.Obj, r.Dir = r.Dir, r.Obj
			}
			holds(t, "bytes of "+decimal(g.proc), given{proc, r, g.bytes})
		}
	}
}

// P8.3: the bytes of results with StOK, read as those with another status, and the other way about.
func TestBytesOfAnotherStatus(t *testing.T) {
	for _, g := range ordinary() {
		is := g.reply.Status == api.StOK
		if layout(g.proc, is) == layout(g.proc, !is) {
			continue
		}
		status := fine
		if is {
			status = "\x00\x00\x00\x46"
		}
		fails(t, "another status", g.proc, status+g.bytes[4:], api.ErrForm)
	}
}

// P8.3: what is read does not hang on earlier calls, whether they went well or not, and shares no memory with what is read later.
func TestReadAgain(t *testing.T) {
	for _, g := range ordinary() {
		first, err := reply.Get(g.proc, g.bytes)
		fails(t, "in between", g.proc, g.bytes+no, api.ErrForm)
		fails(t, "in between", procs, g.bytes, api.ErrProc)
		again, err2 := reply.Get(g.proc, g.bytes)
		if !equal(first, again) || err != err2 {
			t.Errorf("%d: %+v, error %d, and then %+v, error %d", g.proc, first, err, again, err2)
		}
		spoil(first)
		if !equal(again, g.reply) {
			t.Errorf("%d: when other results were changed, %+v became %+v", g.proc, g.reply, again)
		}
	}
}

// spoil changes all elements of the lists of results, and what may stand behind them.
func spoil(r api.Reply) {
	for i := range r.Entries {
		r.Entries[i] = api.Entry{Gen: -9, Name: "spoilt", Cookie: -9}
	}
	for i := range r.Nums {
		r.Nums[i] = -9
	}
	_ = append(r.Entries, api.Entry{Name: "spoilt"})
	_ = append(r.Nums, -9)
}
