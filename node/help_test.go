package node_test

import (
	"math"
	"slices"
	"strings"
	"testing"

	"posthouse/api"
	"posthouse/node"
)

// The limits by their numbers: the bytes of one reading, and of a file.
const (
	mostRead = 256
	mostFile = 1024
)

// small is n bytes in small letters, capital in capital ones. Their order is one that no power of 2 repeats.
func small(n int) string {
	return letters(n, 'a')
}

func capital(n int) string {
	return letters(n, 'A')
}

func letters(n int, first byte) string {
	text := make([]byte, n)
	for i := range text {
		text[i] = first + byte(i%23)
	}
	return string(text)
}

// zeros is n zero bytes.
func zeros(n int) string {
	return strings.Repeat("\x00", n)
}

// around is the numbers around each of these, and those around 0 and at the ends of all numbers.
func around(numbers ...int) []int {
	list := []int{math.MinInt, math.MinInt + 1, math.MinInt + mostRead, math.MinInt + mostFile, -mostFile - 1, -mostRead, -2, math.MaxInt - mostFile, math.MaxInt - mostRead, math.MaxInt - 1, math.MaxInt}
	for _, n := range append(numbers, 0) {
		list = append(list, n-1, n, n+1)
	}
	slices.Sort(list)
	return slices.Compact(list)
}

// entry is an entry; named is valid entries with these names.
func entry(gen int, name string, cookie int) api.Entry {
	return api.Entry{Gen: gen, Name: name, Cookie: cookie}
}

func named(names ...string) []api.Entry {
	list := []api.Entry{}
	for i, name := range names {
		list = append(list, entry(10+i, name, 3*i+1))
	}
	return list
}

// full is an entry with all fields.
func full(name string) api.Entry {
	return api.Entry{Gen: 4, Name: name, Cookie: 6, Attr: api.Post{Is: true, Attr: api.Attr{Type: api.TypeReg, Id: 3}}, Fh: "5"}
}

// guard is a list that is given to a call, with room behind its end, and all that was in its memory.
type guard struct{ given, was []api.Entry }

func guarded(l []api.Entry) guard {
	given := append(append(make([]api.Entry, 0, len(l)+2), l...), entry(77, "behind", 77), entry(78, "end", 78))[:len(l)]
	return guard{given, slices.Clone(given[:cap(given)])}
}

// holds tells whether what was given is what it was, behind its end, too.
func (g guard) holds(t *testing.T, name string) {
	t.Helper()
	if now := g.given[:cap(g.given)]; !slices.Equal(now, g.was) {
		t.Errorf("%s: what was given has become %v, it was %v", name, now, g.was)
	}
}

// spoil overwrites a list, all of its memory.
func spoil(l []api.Entry) {
	l = l[:cap(l)]
	for i := range l {
		l[i] = entry(-1, "spoilt", -1)
	}
}

// gives tells whether a call that makes of entries other ones gives the right ones, in new memory: that what was given stays as it was whatever is done with what was returned, and the other way round.
func gives(t *testing.T, name string, l []api.Entry, call func([]api.Entry) []api.Entry, want []api.Entry) {
	t.Helper()
	g := guarded(l)
	first, second := call(g.given), call(g.given)
	if !slices.Equal(first, want) || !slices.Equal(second, want) {
		t.Errorf("%s: of %v it makes %v, and then %v, want %v", name, l, first, second, want)
	}
	g.holds(t, name)
	spoil(first)
	g.holds(t, name+", what was returned was spoilt")
	spoil(g.given)
	if !slices.Equal(second, want) {
		t.Errorf("%s: after other lists were spoilt, this one is %v, want %v", name, second, want)
	}
}

// finds tells whether Find returns this.
func finds(t *testing.T, l []api.Entry, name string, want int, there bool) {
	t.Helper()
	g := guarded(l)
	if gen, is := node.Find(g.given, name); gen != want || is != there {
		t.Errorf("Find(%v, %q) = %d, %v, want %d, %v", l, name, gen, is, want, there)
	}
	g.holds(t, "Find")
}
