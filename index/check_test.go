package index_test

import (
	"math"
	"slices"
	"strings"
	"testing"

	"posthouse/api"
)

// P18.1: caches that are valid: empty ones, with one and with several elements of each list, and of all.
func TestValid(t *testing.T) {
	for _, c := range caches() {
		checks(t, "valid", c, true)
	}
}

// ordered are lists in ascending order: with other values in one of the parts that order them, or in both.
func ordered() []any {
	all := several()
	return []any{
		all.Helds, all.Files, all.Names, all.Blocks,
		[]api.Held{{Epoch: 1, Serial: 5, Up: "a"}, {Epoch: 2, Serial: 5, Up: "b"}, {Epoch: 10, Serial: 5, Up: "c"}, {Epoch: 255, Serial: 5, Up: "d"}, {Epoch: 256, Serial: 5, Up: "e"}, {Epoch: high, Serial: 5, Up: "f"}},
		[]api.Held{{Epoch: 5, Serial: 1, Up: "a"}, {Epoch: 5, Serial: 2, Up: "b"}, {Epoch: 5, Serial: 10, Up: "c"}, {Epoch: 5, Serial: 256, Up: "d"}, {Epoch: 5, Serial: high + 1, Up: "e"}, {Epoch: 5, Serial: math.MaxInt, Up: "f"}},
		[]api.Held{{Epoch: 1, Serial: 9, Up: "f"}, {Epoch: 2, Serial: 8, Up: "e"}, {Epoch: 3, Serial: 7, Up: "d"}, {Epoch: 4, Serial: 1, Up: "c"}, {Epoch: 4, Serial: 2, Up: "b"}, {Epoch: 5, Serial: 1, Up: "a"}},
		[]api.Cached{{Up: "\x00", Attr: attrOf(9)}, {Up: "\x00\x00", Attr: attrOf(8)}, {Up: "A", Attr: attrOf(7)}, {Up: "a", Attr: attrOf(7)}, {Up: "a\x00", Attr: attrOf(7)}, {Up: "aa", Attr: attrOf(6)}, {Up: "aaa", Attr: attrOf(5)}, {Up: "b", Attr: attrOf(4)}},
		[]api.Cached{{Up: "z", Attr: attrOf(1)}, {Up: "\x7f\xff", Attr: attrOf(1)}, {Up: "\x80", Attr: attrOf(1)}, {Up: "\x80\x00", Attr: attrOf(1)}, {Up: "\xc3\xa4", Attr: attrOf(1)}, {Up: "\xfe\xff", Attr: attrOf(1)}, {Up: "\xff", Attr: attrOf(1)}},
		[]api.Known{{Dir: "a", Name: "x"}, {Dir: "ab", Name: "x"}, {Dir: "abc", Name: "x"}, {Dir: "b", Name: "x"}, {Dir: "\x80", Name: "x"}, {Dir: "\xff", Name: "x"}},
		[]api.Known{{Dir: "d", Name: "\x00"}, {Dir: "d", Name: "a", Up: "z"}, {Dir: "d", Name: "ab", Up: "y"}, {Dir: "d", Name: "b"}, {Dir: "d", Name: "b\x00"}, {Dir: "d", Name: "\x7f"}, {Dir: "d", Name: "\x80"}, {Dir: "d", Name: "\xff"}},
		[]api.Known{{Dir: "a", Name: "z"}, {Dir: "ab", Name: "y"}, {Dir: "b", Name: "x"}, {Dir: "b", Name: "y"}, {Dir: "c", Name: "a"}, {Dir: "\xff", Name: "\x00"}},
		[]api.Placed{{Up: "a", No: 5, Slot: 1}, {Up: "ab", No: 5, Slot: 2}, {Up: "b", No: 5, Slot: 3}, {Up: "\x7f", No: 5, Slot: 4}, {Up: "\x80", No: 5, Slot: 5}, {Up: "\xff", No: 5, Slot: 6}},
		[]api.Placed{{Up: "a", No: 0, Slot: 6}, {Up: "a", No: 1, Slot: 5}, {Up: "a", No: 9, Slot: 4}, {Up: "a", No: 10, Slot: 3}, {Up: "a", No: 256, Slot: 2}, {Up: "a", No: place, Slot: 1}},
		[]api.Placed{{Up: "a", No: 9, Slot: 3}, {Up: "ab", No: 8, Slot: 1}, {Up: "b", No: 7, Slot: 2}, {Up: "c", No: 0, Slot: 9}, {Up: "c", No: 1, Slot: 8}, {Up: "\xff", No: 0, Slot: 7}},
	}
}

// filed is a cache of a list, with the files that its elements need.
func filed(list any) api.Cache {
	c := with(api.Cache{}, list)
	add := func(up string) { c.Files = append(c.Files, api.Cached{Up: up, Attr: attrOf(1)}) }
	for _, n := range c.Names {
		add(n.Dir)
	}
	for _, b := range c.Blocks {
		add(b.Up)
	}
	if len(c.Names)+len(c.Blocks) > 0 {
		slices.SortFunc(c.Files, byFile)
		c.Files = slices.Compact(c.Files)
	}
	return c
}

// disorders are a list's orders that are wrong, each in one place: two elements have changed places, or one has what orders another one, as well.
func disorders(list any) (all []any) {
	switch l := list.(type) {
	case []api.Held:
		return wrong(l, func(x *api.Held, y api.Held) { x.Epoch, x.Serial = y.Epoch, y.Serial })
	case []api.Cached:
		return wrong(l, func(x *api.Cached, y api.Cached) { x.Up = y.Up })
	case []api.Known:
		return wrong(l, func(x *api.Known, y api.Known) { x.Dir, x.Name = y.Dir, y.Name })
	case []api.Placed:
		return wrong(l, func(x *api.Placed, y api.Placed) { x.Up, x.No = y.Up, y.No })
	}
	return nil
}

func wrong[T any](l []T, take func(x *T, y T)) (all []any) {
	for i := range l {
		for j := range i {
			swapped, first, second := slices.Clone(l), slices.Clone(l), slices.Clone(l)
			swapped[i], swapped[j] = l[j], l[i]
			take(&first[j], l[i])
			take(&second[i], l[j])
			all = append(all, swapped, first, second)
		}
	}
	return all
}

// P18.1: each list out of order, or with two that are equal in what orders it, at any place.
func TestOrder(t *testing.T) {
	for _, list := range ordered() {
		good := filed(list)
		checks(t, "in order", good, true)
		for _, bad := range disorders(list) {
			checks(t, "out of order", with(good, bad), false)
		}
	}
}

// P18.1: what does not order a list may come in any order, and more than once, if the chapter does not say otherwise.
func TestFreeOrder(t *testing.T) {
	checks(t, "names of one thing", filed([]api.Known{{Dir: "a", Name: "x", Up: "u"}, {Dir: "a", Name: "y", Up: "u"}, {Dir: "b", Name: "x", Up: "u"}, {Dir: "b", Name: "y", Up: "b"}}), true)
	checks(t, "names of no file", filed([]api.Known{{Dir: "a", Name: "x", Up: "z"}, {Dir: "a", Name: "y", Up: "c"}}), true)
	checks(t, "handles for no file", api.Cache{Helds: []api.Held{{Epoch: 1, Serial: 1, Up: "z"}, {Epoch: 1, Serial: 2, Up: "c"}}}, true)
	checks(t, "slots in no order", filed([]api.Placed{{Up: "a", No: 0, Slot: 9}, {Up: "a", No: 1, Slot: 0}, {Up: "b", No: 0, Slot: 4}}), true)
	checks(t, "equal attributes", api.Cache{Files: []api.Cached{{Up: "a", Attr: attrOf(1)}, {Up: "b", Attr: attrOf(1)}}}, true)
}

// P18.1: two handles for the same, at any two places.
func TestTwoHandlesForOne(t *testing.T) {
	for _, list := range ordered() {
		l, _ := list.([]api.Held)
		for i := range l {
			for j := range i {
				two := slices.Clone(l)
				two[i].Up = two[j].Up
				checks(t, "two for one", api.Cache{Helds: two}, false)
			}
		}
	}
}

// P18.1: two blocks in one slot, at any two places.
func TestTwoBlocksInOneSlot(t *testing.T) {
	for _, list := range ordered() {
		l, _ := list.([]api.Placed)
		for i := range l {
			for j := range i {
				two := slices.Clone(l)
				two[i].Slot = two[j].Slot
				checks(t, "two in one", filed(two), false)
			}
		}
	}
}

// P18.1: names, and blocks, of no file: of each of several files that is taken away, and of files that never were.
func TestOfNoFile(t *testing.T) {
	all := several()
	for i, f := range all.Files {
		files := slices.Delete(slices.Clone(all.Files), i, i+1)
		named := slices.ContainsFunc(all.Names, func(n api.Known) bool { return n.Dir == f.Up })
		has := slices.ContainsFunc(all.Blocks, func(b api.Placed) bool { return b.Up == f.Up })
		checks(t, "names", api.Cache{Helds: all.Helds, Files: files, Names: all.Names}, !named)
		checks(t, "blocks", api.Cache{Helds: all.Helds, Files: files, Blocks: all.Blocks}, !has)
	}
	for _, up := range []string{"\x00", "A", "a\x00", "aa", "abc", "c", "\x81", "\xff\x00", "\xff\xff", "elsewhere", "q"} {
		checks(t, "a name", sorted(with(all, append(slices.Clone(all.Names), api.Known{Dir: up, Name: "x"}))), false)
		checks(t, "a block", sorted(with(all, append(slices.Clone(all.Blocks), api.Placed{Up: up, Slot: 77}))), false)
	}
	checks(t, "a name without files", api.Cache{Names: all.Names[:1]}, false)
	checks(t, "a block without files", api.Cache{Blocks: all.Blocks[:1]}, false)
	checks(t, "a handle is no file", api.Cache{Helds: all.Helds, Names: all.Names[:1]}, false)
}

// beside is caches in which an element is the only one, and in its place among others.
func beside(list any) []api.Cache {
	all := several()
	switch l := list.(type) {
	case []api.Held:
		all.Helds = append(all.Helds, l...)
	case []api.Cached:
		all.Files = append(all.Files, l...)
	case []api.Known:
		all.Names = append(all.Names, l...)
		all.Files = append(all.Files, filed(l).Files...)
	case []api.Placed:
		all.Blocks = append(all.Blocks, l...)
		all.Files = append(all.Files, filed(l).Files...)
	}
	all = sorted(all)
	all.Files = slices.CompactFunc(all.Files, func(a, b api.Cached) bool { return a.Up == b.Up })
	return []api.Cache{filed(list), all}
}

// P18.1: each number of each element at, just below and just above its bounds.
func TestBoundsOfNumbers(t *testing.T) {
	for _, n := range odd() {
		small := n >= 0 && n <= place
		for _, c := range beside([]api.Held{{Epoch: n, Serial: 77, Up: "new"}}) {
			checks(t, "Epoch", c, n >= 1 && n <= high)
		}
		for _, c := range beside([]api.Held{{Epoch: 77, Serial: n, Up: "new"}}) {
			checks(t, "Serial", c, n >= 1)
		}
		for _, c := range beside([]api.Placed{{Up: "new", No: n, Slot: 77}}) {
			checks(t, "No", c, small)
		}
		for _, c := range []api.Cache{filed([]api.Placed{{Up: "new", No: 7, Slot: n}}), filed([]api.Placed{{Up: "a", No: 7, Slot: 77}, {Up: "new", No: 7, Slot: n}, {Up: "z", No: 7, Slot: 88}})} {
			checks(t, "Slot", c, small)
		}
	}
}

// P18.1: each string of each element at, just below and just above its bounds.
func TestBoundsOfStrings(t *testing.T) {
	for _, n := range []int{0, 1, 2, 63, 64, 65, 66, 254, 255, 256, 257, 70000} {
		s := strings.Repeat("\xf0", n)
		for _, c := range beside([]api.Held{{Epoch: 77, Serial: 77, Up: s}}) {
			checks(t, "a handle's Up", c, n >= 1 && n <= 64)
		}
		for _, c := range beside([]api.Cached{{Up: s, Attr: attrOf(1)}}) {
			checks(t, "a file's Up", c, n >= 1 && n <= 64)
		}
		for _, c := range beside([]api.Known{{Dir: s, Name: "n", Up: "u"}}) {
			checks(t, "a name's Dir", c, n >= 1 && n <= 64)
		}
		for _, c := range beside([]api.Known{{Dir: "d", Name: s, Up: "u"}}) {
			checks(t, "a name's Name", c, n >= 1 && n <= 255)
		}
		for _, c := range beside([]api.Known{{Dir: "d", Name: "n", Up: s}}) {
			checks(t, "a name's Up", c, n <= 64)
		}
		for _, c := range beside([]api.Placed{{Up: s, No: 77, Slot: 77}}) {
			checks(t, "a block's Up", c, n >= 1 && n <= 64)
		}
	}
}

// bounded is a field of attributes, and what it may be.
type bounded struct {
	name        string
	field       func(a *api.Attr) *int
	least, most int
}

func attrFields() []bounded {
	return []bounded{
		{"Type", func(a *api.Attr) *int { return &a.Type }, 1, 7},
		{"Mode", func(a *api.Attr) *int { return &a.Mode }, 0, 4095},
		{"Nlink", func(a *api.Attr) *int { return &a.Nlink }, 0, high},
		{"Uid", func(a *api.Attr) *int { return &a.Uid }, 0, high},
		{"Gid", func(a *api.Attr) *int { return &a.Gid }, 0, high},
		{"Size", func(a *api.Attr) *int { return &a.Size }, 0, math.MaxInt},
		{"Id", func(a *api.Attr) *int { return &a.Id }, 0, high},
		{"Gen", func(a *api.Attr) *int { return &a.Gen }, 0, math.MaxInt},
		{"Change", func(a *api.Attr) *int { return &a.Change }, 0, math.MaxInt},
		{"Time", func(a *api.Attr) *int { return &a.Time }, 0, math.MaxInt},
	}
}

// P18.1: each of a file's attributes at, just below and just above its bounds.
func TestBoundsOfAttributes(t *testing.T) {
	for _, f := range attrFields() {
		for _, n := range append(odd(), 7, 8, 4095, 4096) {
			a := attrOf(1)
			*f.field(&a) = n
			for _, up := range []string{"\x01", "new", "\xff\xff"} {
				for _, c := range beside([]api.Cached{{Up: up, Attr: a}}) {
					checks(t, f.name, c, n >= f.least && n <= f.most)
				}
			}
		}
	}
	checks(t, "no attributes", api.Cache{Files: []api.Cached{{Up: "a"}}}, false)
}

// P18.1: an element that is zero, in each list, alone and ahead of the others.
func TestZeroElements(t *testing.T) {
	for _, list := range []any{[]api.Held{{}}, []api.Cached{{}}, []api.Known{{}}, []api.Placed{{}}} {
		for _, c := range beside(list) {
			checks(t, "zero", c, false)
		}
	}
}
