package node_test

import (
	"math"
	"math/rand"
	"slices"
	"strings"
	"testing"

	"posthouse/api"
	"posthouse/node"
)

// Lists for Find, With and Without: none, one entry, several; names of which one is the beginning of another; a name twice, side by side and apart; entries that are not valid.
func lists() [][]api.Entry {
	return [][]api.Entry{
		nil, {}, named("a"), named("a", "b"), named("a", "b", "c"), named("c", "b", "a"), named("a", "ab", "abc", "b"), named("abc", "ab", "a"), named("ż", "Ż", "\xff", " ", "..."),
		named("a", "a"), named("a", "a", "b"), named("a", "b", "a"), named("b", "a", "a"), named("b", "a", "c", "a", "d"), named("a", "a", "a"),
		named("", "."), named("A", "a", "/", "a/b", strings.Repeat("n", 25)),
		{entry(9, "b", 7), entry(3, "a", 2), entry(9, "c", 2)}, {entry(0, "a", 0), entry(-1, "b", -1), entry(math.MinInt, "c", math.MaxInt), entry(math.MaxInt, "d", math.MinInt)},
		{full("a"), full("b"), full("c")},
	}
}

// names are such that are in some of the lists, and such that are in none.
func names() []string {
	return []string{"a", "b", "c", "d", "ab", "abc", "A", "aa", "", " ", ".", "...", "ż", "\xff", "a/b", "a\x00", strings.Repeat("n", 24), strings.Repeat("n", 25)}
}

// removed is the entries of all other names.
func removed(l []api.Entry, name string) []api.Entry {
	other := []api.Entry{}
	for _, e := range l {
		if e.Name != name {
			other = append(other, e)
		}
	}
	return other
}

// P20.3: names that are there, at each place, and such that are not.
func TestFind(t *testing.T) {
	l := named("a", "b", "abc", "ż")
	for i, name := range []string{"a", "b", "abc", "ż"} {
		finds(t, l, name, 10+i, true)
		finds(t, slices.Delete(slices.Clone(l), i, i+1), name, 0, false)
		finds(t, l[i:i+1], name, 10+i, true)
	}
	for _, name := range []string{"", "A", "ab", "abcd", "c", "Ż", "a ", " a", "a\x00"} {
		finds(t, l, name, 0, false)
	}
	for _, name := range names() {
		finds(t, nil, name, 0, false)
		finds(t, []api.Entry{}, name, 0, false)
	}
	finds(t, []api.Entry{entry(5, "a", 1), entry(5, "b", 2)}, "b", 5, true)
	finds(t, []api.Entry{entry(0, "a", 1), entry(-3, "b", 2), full("c")}, "a", 0, true)
	finds(t, []api.Entry{entry(0, "a", 1), entry(-3, "b", 2), full("c")}, "b", -3, true)
	finds(t, []api.Entry{entry(0, "a", 1), entry(-3, "b", 2), full("c")}, "c", 4, true)
}

// P20.3: of a name that occurs twice the first entry is found; none of them is left by Without, nor by With.
func TestNameThatOccursTwice(t *testing.T) {
	for _, l := range [][]api.Entry{
		{entry(2, "a", 1), entry(3, "a", 2)}, {entry(2, "a", 2), entry(3, "a", 1), entry(4, "b", 3)}, {entry(2, "a", 1), entry(4, "b", 3), entry(3, "a", 4)}, {entry(4, "b", 3), entry(2, "a", 4), entry(5, "c", 5), entry(3, "a", 6)},
	} {
		finds(t, l, "a", 2, true)
		if _, is := node.Find(node.Without(l, "a"), "a"); is {
			t.Errorf("Without(%v, a) has it", l)
		}
		finds(t, node.With(l, "a", 7, 8), "a", 7, true)
	}
}

// P20.3: each name with and without each list, in new memory.
func TestWithAndWithout(t *testing.T) {
	for _, l := range lists() {
		for _, name := range names() {
			without := removed(l, name)
			gives(t, "Without "+name, l, func(l []api.Entry) []api.Entry { return node.Without(l, name) }, without)
			for _, n := range [][2]int{{1, 1}, {2, 99}, {99, 2}, {0, 0}, {-1, -1}, {math.MaxInt, math.MinInt}, {math.MinInt, math.MaxInt}} {
				with := append(slices.Clone(without), entry(n[0], name, n[1]))
				gives(t, "With "+name, l, func(l []api.Entry) []api.Entry { return node.With(l, name, n[0], n[1]) }, with)
			}
		}
	}
}

// P20.3: the same, written out.
func TestWithAndWithoutSome(t *testing.T) {
	a, b, c := entry(2, "a", 1), entry(3, "b", 4), entry(4, "c", 6)
	for _, x := range []struct {
		l             []api.Entry
		name          string
		without, with []api.Entry
	}{
		{nil, "a", nil, []api.Entry{entry(9, "a", 8)}},
		{[]api.Entry{a}, "a", nil, []api.Entry{entry(9, "a", 8)}},
		{[]api.Entry{a}, "b", []api.Entry{a}, []api.Entry{a, entry(9, "b", 8)}},
		{[]api.Entry{a, b, c}, "a", []api.Entry{b, c}, []api.Entry{b, c, entry(9, "a", 8)}},
		{[]api.Entry{a, b, c}, "b", []api.Entry{a, c}, []api.Entry{a, c, entry(9, "b", 8)}},
		{[]api.Entry{a, b, c}, "c", []api.Entry{a, b}, []api.Entry{a, b, entry(9, "c", 8)}},
		{[]api.Entry{a, b, c}, "d", []api.Entry{a, b, c}, []api.Entry{a, b, c, entry(9, "d", 8)}},
		{[]api.Entry{a, b, a}, "a", []api.Entry{b}, []api.Entry{b, entry(9, "a", 8)}},
	} {
		gives(t, "Without "+x.name, x.l, func(l []api.Entry) []api.Entry { return node.Without(l, x.name) }, x.without)
		gives(t, "With "+x.name, x.l, func(l []api.Entry) []api.Entry { return node.With(l, x.name, 9, 8) }, x.with)
	}
}

// P20.3: any series of names added and removed leaves each that was added last, in the order in which they were added.
func TestSeriesOfNames(t *testing.T) {
	chance := rand.New(rand.NewSource(4))
	for range 100 {
		var l, want []api.Entry
		for step := range 60 {
			name := names()[chance.Intn(6)]
			if want = removed(want, name); chance.Intn(3) == 0 {
				l = node.Without(l, name)
				finds(t, l, name, 0, false)
			} else {
				l, want = node.With(l, name, step+2, step+1), append(want, entry(step+2, name, step+1))
				finds(t, l, name, step+2, true)
			}
			if !slices.Equal(l, want) {
				t.Fatalf("%v, want %v", l, want)
			}
			if err := node.Check(node.Without(node.Without(l, ""), ".")); err != api.OK {
				t.Fatalf("Check(%v) = %d", l, err)
			}
		}
	}
}
