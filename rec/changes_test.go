package rec_test

import (
	"math"
	"slices"
	"testing"

	"posthouse/api"
	"posthouse/rec"
)

// madeOf tells whether these changes make a cache, and whether the cache is what it was, whatever is done with them.
func madeOf(t *testing.T, name string, c api.Cache, want ...api.Change) {
	t.Helper()
	was := api.Cache{Helds: slices.Clone(c.Helds), Files: slices.Clone(c.Files), Names: slices.Clone(c.Names), Blocks: slices.Clone(c.Blocks)}
	got := rec.Changes(c)
	if !slices.Equal(got, want) {
		t.Errorf("%s: Changes(%+v) = %+v, want %+v", name, c, got, want)
	}
	again := rec.Changes(c)
	for i := range got {
		got[i] = api.Change{Kind: -1, Up: "spoilt"}
	}
	_ = append(got, api.Change{Kind: -2})
	if !slices.Equal(again, want) || !slices.Equal(rec.Changes(c), want) {
		t.Errorf("%s: after the changes of %+v were spoilt, they are others", name, c)
	}
	if !slices.Equal(c.Helds, was.Helds) || !slices.Equal(c.Files, was.Files) || !slices.Equal(c.Names, was.Names) || !slices.Equal(c.Blocks, was.Blocks) {
		t.Errorf("%s: the cache %+v has become %+v", name, was, c)
	}
}

// someCache is a cache with several of each list, and what makes each list.
func someCache() (c api.Cache, helds, files, names, blocks []api.Change) {
	dir := api.Attr{Type: api.TypeDir, Gen: 1}
	c = api.Cache{
		Helds:  []api.Held{{Epoch: 1, Serial: 2, Up: "z"}, {Epoch: 1, Serial: 3, Up: "d"}, {Epoch: 2, Serial: 1, Up: "a"}},
		Files:  []api.Cached{{Up: "a", Attr: someFile()}, {Up: "d", Attr: dir}},
		Names:  []api.Known{{Dir: "d", Name: "one", Up: "a"}, {Dir: "d", Name: "two"}, {Dir: "e", Name: "b", Up: "\xff"}},
		Blocks: []api.Placed{{Up: "a", No: 0, Slot: 5}, {Up: "a", No: 7, Slot: 0}},
	}
	helds = []api.Change{{Kind: api.ChHold, Epoch: 1, Serial: 2, Up: "z"}, {Kind: api.ChHold, Epoch: 1, Serial: 3, Up: "d"}, {Kind: api.ChHold, Epoch: 2, Serial: 1, Up: "a"}}
	files = []api.Change{{Kind: api.ChFile, Up: "a", Attr: someFile()}, {Kind: api.ChFile, Up: "d", Attr: dir}}
	names = []api.Change{{Kind: api.ChName, Up: "d", Name: "one", Child: "a"}, {Kind: api.ChName, Up: "d", Name: "two"}, {Kind: api.ChName, Up: "e", Name: "b", Child: "\xff"}}
	blocks = []api.Change{{Kind: api.ChBlock, Up: "a", No: 0, Slot: 5}, {Kind: api.ChBlock, Up: "a", No: 7, Slot: 0}}
	return c, helds, files, names, blocks
}

// P17.3: an empty cache needs no changes.
func TestEmptyCache(t *testing.T) {
	madeOf(t, "nil lists", api.Cache{})
	madeOf(t, "empty lists", api.Cache{Helds: []api.Held{}, Files: []api.Cached{}, Names: []api.Known{}, Blocks: []api.Placed{}})
}

// P17.3: caches with one element of one list, and of each list.
func TestOneOfAList(t *testing.T) {
	c, helds, files, names, blocks := someCache()
	madeOf(t, "a handle", api.Cache{Helds: c.Helds[:1]}, helds[0])
	madeOf(t, "a file", api.Cache{Files: c.Files[:1]}, files[0])
	madeOf(t, "a name", api.Cache{Names: c.Names[:1]}, names[0])
	madeOf(t, "a name of nothing", api.Cache{Names: c.Names[1:2]}, names[1])
	madeOf(t, "a block", api.Cache{Blocks: c.Blocks[:1]}, blocks[0])
	madeOf(t, "one of each", api.Cache{Helds: c.Helds[:1], Files: c.Files[:1], Names: c.Names[:1], Blocks: c.Blocks[:1]}, helds[0], files[0], names[0], blocks[0])
}

// P17.3: caches with several elements of one list, of two lists, and of all, in this order.
func TestSeveralOfLists(t *testing.T) {
	c, helds, files, names, blocks := someCache()
	madeOf(t, "handles", api.Cache{Helds: c.Helds}, helds...)
	madeOf(t, "files", api.Cache{Files: c.Files}, files...)
	madeOf(t, "names", api.Cache{Names: c.Names}, names...)
	madeOf(t, "blocks", api.Cache{Blocks: c.Blocks}, blocks...)
	madeOf(t, "handles and blocks", api.Cache{Helds: c.Helds, Blocks: c.Blocks}, slices.Concat(helds, blocks)...)
	madeOf(t, "files and names", api.Cache{Files: c.Files, Names: c.Names}, slices.Concat(files, names)...)
	madeOf(t, "all", c, slices.Concat(helds, files, names, blocks)...)
}

// P17.3: each list in its order, whatever that is, and what is there twice, twice.
func TestListsInTheirOrder(t *testing.T) {
	c, helds, files, names, blocks := someCache()
	for _, l := range [][]api.Change{helds, files, names, blocks} {
		slices.Reverse(l)
	}
	slices.Reverse(c.Helds)
	slices.Reverse(c.Files)
	slices.Reverse(c.Names)
	slices.Reverse(c.Blocks)
	madeOf(t, "backwards", c, slices.Concat(helds, files, names, blocks)...)
	twice := api.Cache{Helds: slices.Repeat(c.Helds, 2), Files: slices.Repeat(c.Files, 2), Names: slices.Repeat(c.Names, 2), Blocks: slices.Repeat(c.Blocks, 2)}
	madeOf(t, "twice", twice, slices.Concat(helds, helds, files, files, names, names, blocks, blocks)...)
}

// P17.3: what is in a cache that is not valid is in its changes, too: they are not valid, either.
func TestCacheThatIsNotValid(t *testing.T) {
	c := api.Cache{
		Helds:  []api.Held{{Epoch: -1, Serial: math.MinInt}},
		Files:  []api.Cached{{Attr: api.Attr{Type: 8, Time: -1}}},
		Names:  []api.Known{{}},
		Blocks: []api.Placed{{Up: "a", No: -1, Slot: 65536}},
	}
	want := []api.Change{
		{Kind: api.ChHold, Epoch: -1, Serial: math.MinInt},
		{Kind: api.ChFile, Attr: api.Attr{Type: 8, Time: -1}},
		{Kind: api.ChName},
		{Kind: api.ChBlock, Up: "a", No: -1, Slot: 65536},
	}
	madeOf(t, "not valid", c, want...)
	for _, x := range want {
		refusedOne(t, "of a cache that is not valid", x)
	}
}

// P17.3: the changes of a great cache are all there; more than 16 have no one record.
func TestGreatCache(t *testing.T) {
	var c api.Cache
	var helds, blocks []api.Change
	for i := range 70000 {
		c.Helds = append(c.Helds, api.Held{Epoch: 1, Serial: i + 1, Up: bytes32(i)})
		helds = append(helds, api.Change{Kind: api.ChHold, Epoch: 1, Serial: i + 1, Up: bytes32(i)})
		c.Blocks = append(c.Blocks, api.Placed{Up: "a", No: i, Slot: i})
		blocks = append(blocks, api.Change{Kind: api.ChBlock, Up: "a", No: i, Slot: i})
	}
	madeOf(t, "great", c, slices.Concat(helds, blocks)...)
	refused(t, "great", rec.Changes(c), api.ErrLong)
}

// P17.3, P17.4: the changes of a cache, up to 16 of them at a time, are recovered from their records.
func TestChangesAreRecovered(t *testing.T) {
	c, helds, files, names, blocks := someCache()
	all := slices.Concat(helds, files, names, blocks)
	holds(t, "all", rec.Changes(c), recordOf(all))
	for part := range slices.Chunk(rec.Changes(c), 3) {
		holds(t, "some", part, recordOf(part))
	}
}
