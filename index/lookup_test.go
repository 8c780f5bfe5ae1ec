package index_test

import (
	"math"
	"slices"
	"testing"

	"posthouse/api"
	"posthouse/index"
)

// ups are strings that are in the caches of these tests, and others ahead of, between and behind them.
func ups() []string {
	return []string{"", "\x00", "A", "a", "a\x00", "aa", "ab", "abc", "b", "c", "elsewhere", "f", "n", "q", "z", "\x7f", "\x7f\x00", "\x80", "\x81", "\xfe", "\xff", "\xff\x00", "\xff\xff"}
}

func names() []string {
	return append(ups(), "x", "x\x00", "xx", "xy", "xyz", "y")
}

func numbers() []int {
	return append(odd(), 3, 4, 5, 7, 8, 9, 10, 11)
}

// told tells whether a lookup returned what it should, or the zero value and false.
func told[T comparable](t *testing.T, name string, got T, is bool, want T, wantIs bool) {
	t.Helper()
	if !wantIs {
		want = *new(T)
	}
	if got != want || is != wantIs {
		t.Errorf("%s: %+v, %v, want %+v, %v", name, got, is, want, wantIs)
	}
}

// looks tells whether all lookups in a valid cache return what is there, and nothing else.
func looks(t *testing.T, c api.Cache) {
	t.Helper()
	m, g := modelOf(c), guarded(c)
	for _, epoch := range numbers() {
		for _, serial := range numbers() {
			want, has := m.helds[handleKey{epoch, serial}]
			got, is := index.Holds(g.given, epoch, serial)
			told(t, "Holds", got, is, want, has)
		}
	}
	for _, up := range ups() {
		at := slices.IndexFunc(c.Helds, func(h api.Held) bool { return h.Up == up })
		held, is := index.Issued(g.given, up)
		told(t, "Issued", held, is, append(c.Helds[:len(c.Helds):len(c.Helds)], api.Held{})[max(at, 0)], at >= 0)
		want, has := m.files[up]
		got, is := index.File(g.given, up)
		told(t, "File", got, is, want, has)
		for _, name := range names() {
			want, has := m.names[nameKey{up, name}]
			got, is := index.Name(g.given, up, name)
			told(t, "Name", got, is, want, has)
		}
		for _, no := range numbers() {
			want, has := m.blocks[blockKey{up, no}]
			got, is := index.Block(g.given, up, no)
			told(t, "Block", got, is, want, has)
		}
	}
	g.holds(t, "lookups")
}

// P18.3: all lookups in caches with no, one and several elements of each list.
func TestLookups(t *testing.T) {
	for _, c := range caches() {
		looks(t, c)
	}
	for _, list := range ordered() {
		looks(t, filed(list))
	}
}

// P18.3: some lookups, written out.
func TestLookupsWrittenOut(t *testing.T) {
	c := several()
	up, is := index.Holds(c, 1, 10)
	told(t, "Holds", up, is, "\xff", true)
	up, is = index.Holds(c, 10, 1)
	told(t, "Holds", up, is, "", false)
	held, is := index.Issued(c, "b")
	told(t, "Issued", held, is, api.Held{Epoch: 3, Serial: 2, Up: "b"}, true)
	held, is = index.Issued(c, "")
	told(t, "Issued", held, is, api.Held{}, false)
	a, is := index.File(c, "\x80")
	told(t, "File", a, is, attrOf(5), true)
	a, is = index.File(c, "z")
	told(t, "File", a, is, api.Attr{}, false)
	up, is = index.Name(c, "a", "xy")
	told(t, "Name", up, is, "b", true)
	up, is = index.Name(c, "a", "x")
	told(t, "Name of nothing", up, is, "", true)
	up, is = index.Name(c, "b", "xy")
	told(t, "Name", up, is, "", false)
	slot, is := index.Block(c, "a", place)
	told(t, "Block", slot, is, place, true)
	slot, is = index.Block(c, "a", 1)
	told(t, "Block in slot 0", slot, is, 0, true)
	slot, is = index.Block(c, "a", 3)
	told(t, "Block", slot, is, 0, false)
}

// P18.3: what is in a cache that is not valid is found, too: in lists that are in no order, and elements that are not valid.
func TestLookupsInAnyOrder(t *testing.T) {
	c := several()
	slices.Reverse(c.Helds)
	slices.Reverse(c.Files)
	slices.Reverse(c.Names)
	slices.Reverse(c.Blocks)
	looks(t, c)
	c.Helds[0], c.Helds[3] = c.Helds[3], c.Helds[0]
	c.Files[0], c.Files[3] = c.Files[3], c.Files[0]
	c.Names[0], c.Names[3] = c.Names[3], c.Names[0]
	c.Blocks[0], c.Blocks[3] = c.Blocks[3], c.Blocks[0]
	looks(t, c)
	looks(t, api.Cache{
		Helds:  []api.Held{{Epoch: -1, Serial: math.MinInt}, {}, {Epoch: math.MaxInt, Up: "a"}},
		Files:  []api.Cached{{Attr: attrOf(-1)}, {Up: "b"}, {Up: "a", Attr: api.Attr{Type: 8}}},
		Names:  []api.Known{{Dir: "b"}, {Up: "b"}, {Dir: "a", Name: "x", Up: "u"}},
		Blocks: []api.Placed{{No: -1, Slot: -1}, {Slot: math.MaxInt}, {Up: "a", No: math.MinInt, Slot: 1}},
	})
}

// P18.3: of several elements that are the same by what finds them, one is found.
func TestLookupsOfSeveral(t *testing.T) {
	c := api.Cache{
		Helds:  []api.Held{{Epoch: 1, Serial: 1, Up: "a"}, {Epoch: 1, Serial: 1, Up: "b"}, {Epoch: 2, Serial: 1, Up: "b"}},
		Files:  []api.Cached{{Up: "a", Attr: attrOf(1)}, {Up: "a", Attr: attrOf(2)}},
		Names:  []api.Known{{Dir: "a", Name: "x", Up: "u"}, {Dir: "a", Name: "x", Up: "v"}},
		Blocks: []api.Placed{{Up: "a", No: 1, Slot: 3}, {Up: "a", No: 1, Slot: 4}},
	}
	up, is := index.Holds(c, 1, 1)
	told(t, "Holds", up == "a" || up == "b", is, true, true)
	held, is := index.Issued(c, "b")
	told(t, "Issued", slices.Contains(c.Helds[1:], held), is, true, true)
	a, is := index.File(c, "a")
	told(t, "File", a == attrOf(1) || a == attrOf(2), is, true, true)
	up, is = index.Name(c, "a", "x")
	told(t, "Name", up == "u" || up == "v", is, true, true)
	slot, is := index.Block(c, "a", 1)
	told(t, "Block", slot == 3 || slot == 4, is, true, true)
}
