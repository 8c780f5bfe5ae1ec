package node_test

import (
	"math"
	"slices"
	"strconv"
	"strings"
	"testing"

	"posthouse/api"
	"posthouse/node"
)

// checks tells whether entries are valid as it is wanted.
func checks(t *testing.T, what string, l []api.Entry, want api.Errno) {
	t.Helper()
	g := guarded(l)
	if err := node.Check(g.given); err != want {
		t.Errorf("%s: Check(%v) = %d, want %d", what, l, err, want)
	}
	g.holds(t, what)
}

// P20.5: entries that are valid.
func TestCheckValid(t *testing.T) {
	checks(t, "nil", nil, api.OK)
	checks(t, "none", []api.Entry{}, api.OK)
	checks(t, "one", []api.Entry{entry(1, "a", 1)}, api.OK)
	checks(t, "greatest numbers", []api.Entry{entry(math.MaxInt, "a", math.MaxInt-1), entry(1, "b", math.MaxInt)}, api.OK)
	checks(t, "one node by several names", []api.Entry{entry(2, "a", 1), entry(2, "b", 2), entry(2, "c", 3)}, api.OK)
	checks(t, "nodes that descend", []api.Entry{entry(9, "a", 1), entry(5, "b", 2), entry(1, "c", 3)}, api.OK)
	checks(t, "names that descend", named("c", "b", "a"), api.OK)
	checks(t, "names alike", named("a", "A", "aa", "a ", " a", "a.", ".a", "...", "..a", "ż", "z\xff", "\xff", "%", "\\", "\x01"), api.OK)
	checks(t, "names of 24 bytes", named(strings.Repeat("n", 24), strings.Repeat("ż", 12), strings.Repeat("n", 23)), api.OK)
	var many []api.Entry
	for i := range 1000 {
		many = append(many, entry(2+i, strconv.Itoa(i), 1+i))
	}
	checks(t, "many", many, api.OK)
	checks(t, "many, the last one twice", append(many, entry(1002, "999", 1001)), api.ErrForm)
	checks(t, "many, the first one twice", append(many, entry(1002, "0", 1001)), api.ErrForm)
}

// faults are entries that are not valid, wherever they are; their cookies are put right for their places.
func faults() map[string]api.Entry {
	list := map[string]api.Entry{
		"Fh": {Gen: 2, Name: "x", Fh: "1"}, "Fh of a zero byte": {Gen: 2, Name: "x", Fh: "\x00"},
		"attributes that are there": {Gen: 2, Name: "x", Attr: api.Post{Is: true}}, "a full entry": full("x"),
	}
	for i, a := range []api.Attr{{Type: 1}, {Mode: 1}, {Nlink: 1}, {Uid: 1}, {Gid: 1}, {Size: 1}, {Id: 1}, {Gen: 2}, {Change: 1}, {Time: 1}} {
		list["the attribute "+strconv.Itoa(i)] = api.Entry{Gen: 2, Name: "x", Attr: api.Post{Attr: a}}
		list["the attribute "+strconv.Itoa(i)+", there"] = api.Entry{Gen: 2, Name: "x", Attr: api.Post{Is: true, Attr: a}}
	}
	for _, gen := range []int{0, -1, -2, math.MinInt, math.MinInt + 1} {
		list["the Gen "+strconv.Itoa(gen)] = entry(gen, "x", 0)
	}
	for _, name := range []string{"", ".", "..", "/", "a/", "/a", "a/b", "\x00", "a\x00", "\x00a", "a\x00b", strings.Repeat("n", 25), strings.Repeat("ż", 13), strings.Repeat(".", 25), strings.Repeat("n", 1000)} {
		list["the name "+name] = entry(2, name, 0)
	}
	return list
}

// P20.5: each field, and each kind of name, that may not be, at the first place, between others, and at the last one.
func TestCheckFields(t *testing.T) {
	for what, e := range faults() {
		for at := range 4 {
			l := slices.Insert(named("a", "b", "c"), at, e)
			for i := range l {
				l[i].Cookie = i + 1
			}
			checks(t, what, l, api.ErrForm)
			l[at] = entry(2, "x", at+1)
			checks(t, what+", mended", l, api.OK)
		}
		e.Cookie = 1
		checks(t, what+", alone", []api.Entry{e}, api.ErrForm)
	}
}

// P20.5: cookies below 1, and ones that do not ascend.
func TestCheckCookies(t *testing.T) {
	for _, c := range []struct {
		cookies []int
		want    api.Errno
	}{
		{[]int{1, 2, 3}, api.OK}, {[]int{1, 3, 9}, api.OK}, {[]int{7, 8, 1000000}, api.OK}, {[]int{1, 2, math.MaxInt}, api.OK}, {[]int{math.MaxInt - 2, math.MaxInt - 1, math.MaxInt}, api.OK},
		{[]int{0, 2, 3}, api.ErrForm}, {[]int{-1, 2, 3}, api.ErrForm}, {[]int{math.MinInt, 2, 3}, api.ErrForm}, {[]int{-3, -2, -1}, api.ErrForm}, {[]int{-2, -1, 0}, api.ErrForm}, {[]int{-1, 0, 1}, api.ErrForm},
		{[]int{1, 0, 3}, api.ErrForm}, {[]int{1, 2, 0}, api.ErrForm}, {[]int{1, -2, 3}, api.ErrForm}, {[]int{1, 2, -3}, api.ErrForm}, {[]int{0, 0, 0}, api.ErrForm},
		{[]int{1, 1, 2}, api.ErrForm}, {[]int{1, 2, 2}, api.ErrForm}, {[]int{1, 2, 1}, api.ErrForm}, {[]int{5, 5, 5}, api.ErrForm}, {[]int{math.MaxInt, math.MaxInt, math.MaxInt}, api.ErrForm},
		{[]int{2, 1, 3}, api.ErrForm}, {[]int{1, 3, 2}, api.ErrForm}, {[]int{3, 2, 1}, api.ErrForm}, {[]int{2, 3, 1}, api.ErrForm}, {[]int{3, 1, 2}, api.ErrForm}, {[]int{math.MaxInt, 1, 2}, api.ErrForm}, {[]int{1, math.MaxInt, math.MinInt}, api.ErrForm},
	} {
		l := named("a", "b", "c")
		for i := range l {
			l[i].Cookie = c.cookies[i]
		}
		checks(t, "cookies", l, c.want)
	}
	for cookie, want := range map[int]api.Errno{math.MinInt: api.ErrForm, -1: api.ErrForm, 0: api.ErrForm, 1: api.OK, 2: api.OK, math.MaxInt: api.OK} {
		checks(t, "one cookie", []api.Entry{entry(2, "a", cookie)}, want)
	}
}

// P20.5: a name that occurs twice, side by side and apart, at each pair of places.
func TestCheckNamesTwice(t *testing.T) {
	for one := range 5 {
		for other := range one {
			l := named("a", "b", "c", "d", "e")
			l[one].Name = l[other].Name
			checks(t, "twice", l, api.ErrForm)
			l[one].Gen = l[other].Gen
			checks(t, "one node twice by one name", l, api.ErrForm)
			l[one].Name += "x"
			checks(t, "two names", l, api.OK)
		}
	}
	checks(t, "all the same", named("a", "a", "a"), api.ErrForm)
}

// P1: every call ends and none panics, whatever it is given.
func TestNoCallPanics(t *testing.T) {
	numbers := around(1, 24, mostRead, mostFile, 1<<20, 1<<31, 1<<32, 1<<62)
	texts := []string{"", "a", ".", "\x00", "/", "\xff", small(24), small(25), small(256), small(1024), small(1025), strings.Repeat("\xff\x00", 1<<19)}
	odd := append(lists(), named(texts...), slices.Repeat(named("a", "b"), 1<<11))
	for _, a := range numbers {
		for _, data := range texts {
			for _, b := range numbers {
				node.Read(data, a, b)
			}
			node.Resize(data, a)
			for _, text := range texts {
				node.Write(data, a, text)
			}
		}
	}
	for _, l := range odd {
		node.Check(l)
		for _, text := range texts {
			node.Find(l, text)
			node.Without(l, text)
			node.With(l, text, len(l), -1)
		}
		for _, a := range []int{math.MinInt, -1, 0, 1, math.MaxInt} {
			for _, b := range []int{math.MinInt, -1, 0, 1, 1024, math.MaxInt} {
				for _, c := range []int{math.MinInt, -1, 0, 1, 96, math.MaxInt} {
					node.Page(l, a, b, c)
				}
			}
		}
	}
}
