package index_test

import (
	"slices"
	"testing"

	"posthouse/api"
	"posthouse/index"
	"posthouse/rec"
)

// manages tells whether All does all these changes, and leaves this cache; or refuses them, and leaves the cache as it was.
func manages(t *testing.T, name string, c api.Cache, l []api.Change, want api.Cache, done bool) {
	t.Helper()
	given := append(make([]api.Change, 0, len(l)+2), l...)
	all := func(c api.Cache) api.Cache {
		got, is := index.All(c, given)
		if is != done {
			t.Errorf("%s: All(%+v, %+v): %v", name, c, l, is)
		}
		return got
	}
	gives(t, name, c, all, want)
	if !slices.Equal(given, l) || !slices.Equal(given[:cap(given)][len(l):], make([]api.Change, cap(given)-len(l))) {
		t.Errorf("%s: All made of %+v %+v", name, l, given[:cap(given)])
	}
}

// ofModel is the cache in which changes end that are done one after the other in the model.
func ofModel(t *testing.T, c api.Cache, l ...api.Change) api.Cache {
	t.Helper()
	m := modelOf(c)
	for _, x := range l {
		if !m.apply(x) {
			t.Fatalf("the model refuses %+v in %+v", x, m.cache())
		}
	}
	return m.cache()
}

// P18.2: no changes leave the cache as it was, and are done.
func TestAllOfNone(t *testing.T) {
	for _, c := range caches() {
		manages(t, "nil", c, nil, c, true)
		manages(t, "empty", c, []api.Change{}, c, true)
	}
}

// chain is changes that are done one after the other in an empty cache and in several(); most of them are refused without those ahead of them.
func chain() []api.Change {
	return []api.Change{
		hold(9, 1, "new"), file("new", attrOf(1)), named("new", "n", ""), block("new", 0, 50), block("new", 0, 51), block("new", 1, 50),
		named("new", "n", "a"), unblock("new", 0), file("new", attrOf(2)), unname("new", "n"), free(9, 1), hold(9, 2, "new"),
		named("new", "m", "b"), bare("new"), block("new", 2, 50), gone("new"), file("new", attrOf(3)),
	}
}

// P18.2: one change and several, in order, each of which finds what those ahead of it left.
func TestAllOfSeveral(t *testing.T) {
	for _, c := range []api.Cache{{}, none(), several()} {
		for n := range len(chain()) + 1 {
			l := chain()[:n]
			manages(t, "the first changes", c, l, ofModel(t, c, l...), true)
		}
	}
	want := api.Cache{Helds: []api.Held{{Epoch: 9, Serial: 2, Up: "new"}}, Files: []api.Cached{{Up: "new", Attr: attrOf(3)}}}
	manages(t, "written out", api.Cache{}, chain(), want, true)
	manages(t, "one after the other", api.Cache{}, []api.Change{file("f", attrOf(1)), file("f", attrOf(2))}, api.Cache{Files: []api.Cached{{Up: "f", Attr: attrOf(2)}}}, true)
}

// P18.2: the same changes in an order in which one is refused leave the cache as it was.
func TestAllInAnotherOrder(t *testing.T) {
	file, name, block := file("f", attrOf(1)), named("f", "n", ""), block("f", 0, 0)
	want := ofModel(t, api.Cache{}, file, name, block)
	manages(t, "in order", api.Cache{}, []api.Change{file, name, block}, want, true)
	manages(t, "in order", api.Cache{}, []api.Change{file, block, name}, want, true)
	for _, l := range [][]api.Change{{name, file, block}, {name, block, file}, {block, file, name}, {block, name, file}} {
		manages(t, "out of order", api.Cache{}, l, api.Cache{}, false)
	}
}

// P18.2: one change that is refused, at each place, for one reason or another: the cache is as it was before all of them.
func TestAllRefused(t *testing.T) {
	bad := []api.Change{{}, {Kind: 10, Up: "a"}, gone(""), hold(0, 1, "u"), free(77, 77), gone("nowhere"), bare("nowhere"), named("nowhere", "n", ""), unname("nowhere", "n"), block("nowhere", 0, 77), unblock("nowhere", 0)}
	for _, c := range []api.Cache{{}, none(), several()} {
		for at := range len(chain()) + 1 {
			for _, x := range bad {
				manages(t, "one refused", c, put(chain(), at, x), c, false)
			}
		}
	}
	for _, x := range bad {
		manages(t, "alone", several(), []api.Change{x}, several(), false)
		manages(t, "all refused", several(), []api.Change{x, x, x}, several(), false)
	}
	manages(t, "twice the same", several(), []api.Change{gone("a"), gone("a")}, several(), false)
}

// P18.2: there may be more changes than a record has.
func TestAllOfMany(t *testing.T) {
	var l []api.Change
	for i := range 300 {
		l = append(l, hold(1, i+1, string(rune('\u0100'+i))))
	}
	c, is := index.All(api.Cache{}, l)
	if len(c.Helds) != 300 || !is || index.Check(c) != api.OK {
		t.Errorf("All of 300: %d handles, %v", len(c.Helds), is)
	}
	manages(t, "the last one refused", api.Cache{}, append(l, l[299]), api.Cache{}, false)
}

// P18.5: the changes that make a valid cache turn an empty one into it.
func TestMade(t *testing.T) {
	for _, c := range caches() {
		if l := rec.Changes(c); !slices.Equal(l, makes(c)) {
			t.Errorf("Changes(%+v) = %+v", c, l)
		}
		manages(t, "made", api.Cache{}, rec.Changes(c), c, true)
		manages(t, "made", none(), rec.Changes(c), c, true)
	}
	for _, list := range ordered() {
		c := filed(list)
		manages(t, "made", api.Cache{}, rec.Changes(c), c, true)
	}
}

// P18.1, P18.2: of a cache that is not valid the changes that make it are refused, or make another one.
func TestNotMade(t *testing.T) {
	for _, list := range ordered() {
		for _, bad := range disorders(list) {
			c := with(filed(list), bad)
			if made, is := index.All(api.Cache{}, rec.Changes(c)); is && equal(made, c) {
				t.Errorf("%+v is not valid, and was made", c)
			}
		}
	}
}
