package index_test

import (
	"math"
	"slices"
	"testing"

	"posthouse/api"
	"posthouse/index"
)

// equal tells whether two caches are, by their elements; copied is a cache in other memory.
func equal(a, b api.Cache) bool {
	return slices.Equal(a.Helds, b.Helds) && slices.Equal(a.Files, b.Files) && slices.Equal(a.Names, b.Names) && slices.Equal(a.Blocks, b.Blocks)
}

func copied(c api.Cache) api.Cache {
	return api.Cache{
		Helds:  append([]api.Held(nil), c.Helds...),
		Files:  append([]api.Cached(nil), c.Files...),
		Names:  append([]api.Known(nil), c.Names...),
		Blocks: append([]api.Placed(nil), c.Blocks...),
	}
}

// none is the empty cache with empty lists; the zero one has nil lists.
func none() api.Cache {
	return api.Cache{Helds: []api.Held{}, Files: []api.Cached{}, Names: []api.Known{}, Blocks: []api.Placed{}}
}

// attrOf is attributes that have a number in each field.
func attrOf(n int) api.Attr {
	return api.Attr{Type: api.TypeReg, Mode: n, Nlink: n, Uid: n, Gid: n, Size: n, Id: n, Gen: n, Change: n, Time: n}
}

// several is a valid cache with several elements of each list. Its strings are such that one is the beginning of another, and such that have bytes around 128.
func several() api.Cache {
	return api.Cache{
		Helds: []api.Held{
			{Epoch: 1, Serial: 2, Up: "z"}, {Epoch: 1, Serial: 3, Up: "a"}, {Epoch: 1, Serial: 10, Up: "\xff"},
			{Epoch: 3, Serial: 1, Up: "ab"}, {Epoch: 3, Serial: 2, Up: "b"}, {Epoch: 4, Serial: 1, Up: "q"},
		},
		Files: []api.Cached{
			{Up: "a", Attr: attrOf(1)}, {Up: "ab", Attr: attrOf(2)}, {Up: "b", Attr: attrOf(3)},
			{Up: "\x7f", Attr: attrOf(4)}, {Up: "\x80", Attr: attrOf(5)}, {Up: "\xff", Attr: attrOf(6)},
		},
		Names: []api.Known{
			{Dir: "a", Name: "x"}, {Dir: "a", Name: "xy", Up: "b"}, {Dir: "a", Name: "y", Up: "elsewhere"},
			{Dir: "ab", Name: "x", Up: "a"}, {Dir: "\x80", Name: "\x7f", Up: "a"}, {Dir: "\x80", Name: "\x80"}, {Dir: "\xff", Name: "x", Up: "ab"},
		},
		Blocks: []api.Placed{
			{Up: "a", No: 0, Slot: 5}, {Up: "a", No: 1, Slot: 0}, {Up: "a", No: place, Slot: place},
			{Up: "ab", No: 3, Slot: 3}, {Up: "b", No: 0, Slot: 1}, {Up: "\xff", No: 0, Slot: 9}, {Up: "\xff", No: 7, Slot: 2},
		},
	}
}

// oneOfEach is a valid cache with one element of each list.
func oneOfEach() api.Cache {
	return api.Cache{
		Helds:  []api.Held{{Epoch: 2, Serial: 2, Up: "f"}},
		Files:  []api.Cached{{Up: "f", Attr: attrOf(1)}},
		Names:  []api.Known{{Dir: "f", Name: "n", Up: "f"}},
		Blocks: []api.Placed{{Up: "f", No: 2, Slot: 2}},
	}
}

// caches are valid ones: empty, with one element of one list as far as there may be such, with one of each list, with several.
func caches() []api.Cache {
	one, all := oneOfEach(), several()
	return []api.Cache{
		{}, none(), {Helds: one.Helds}, {Files: one.Files}, {Files: one.Files, Names: one.Names}, {Files: one.Files, Blocks: one.Blocks},
		one, {Helds: all.Helds}, {Files: all.Files}, {Files: all.Files, Names: all.Names}, {Files: all.Files, Blocks: all.Blocks}, all,
	}
}

// guard is a cache that is given to a call, in lists that have room behind their ends, and all that was in their memory.
type guard struct{ given, was api.Cache }

// roomy is a list in new memory with room behind its end; whole is all of the memory.
func roomy[T any](l []T, more T) []T {
	return append(append(make([]T, 0, len(l)+2), l...), more, more)[:len(l)]
}

func whole(c api.Cache) api.Cache {
	return api.Cache{Helds: c.Helds[:cap(c.Helds)], Files: c.Files[:cap(c.Files)], Names: c.Names[:cap(c.Names)], Blocks: c.Blocks[:cap(c.Blocks)]}
}

func guarded(c api.Cache) guard {
	given := api.Cache{
		Helds:  roomy(c.Helds, api.Held{Epoch: 7, Serial: 7, Up: "behind"}),
		Files:  roomy(c.Files, api.Cached{Up: "behind", Attr: attrOf(7)}),
		Names:  roomy(c.Names, api.Known{Dir: "behind", Name: "behind"}),
		Blocks: roomy(c.Blocks, api.Placed{Up: "behind", No: 7, Slot: 7}),
	}
	return guard{given, copied(whole(given))}
}

// holds tells whether what was given is what it was, behind its end, too.
func (g guard) holds(t *testing.T, name string) {
	t.Helper()
	if now := whole(g.given); !equal(now, g.was) {
		t.Errorf("%s: what was given has become %+v, it was %+v", name, now, g.was)
	}
}

// spoil overwrites a cache's lists, all of their memory, and what has room behind their ends.
func spoil(c api.Cache) {
	fill(c.Helds, api.Held{Epoch: -1, Serial: -1, Up: "spoilt"})
	fill(c.Files, api.Cached{Up: "spoilt", Attr: attrOf(-1)})
	fill(c.Names, api.Known{Dir: "spoilt", Name: "spoilt", Up: "spoilt"})
	fill(c.Blocks, api.Placed{Up: "spoilt", No: -1, Slot: -1})
}

func fill[T any](l []T, x T) {
	for i := range l[:cap(l)] {
		l[:cap(l)][i] = x
	}
}

// gives tells whether a call that makes of a cache another one gives the right one, in new memory: that what was given stays as it was whatever is done with what was returned, and the other way round.
func gives(t *testing.T, name string, c api.Cache, call func(api.Cache) api.Cache, want api.Cache) {
	t.Helper()
	g := guarded(c)
	first, second := call(g.given), call(g.given)
	if !equal(first, want) || !equal(second, want) {
		t.Errorf("%s: of %+v\nit makes %+v\nand then %+v\nwant     %+v", name, c, first, second, want)
	}
	g.holds(t, name)
	spoil(first)
	g.holds(t, name+": what was returned was spoilt")
	spoil(g.given)
	if !equal(second, want) {
		t.Errorf("%s: after other caches were spoilt, this one is %+v", name, second)
	}
	if got := call(c); !equal(got, want) {
		t.Errorf("%s: after the calls, of %+v it makes %+v, want %+v", name, c, got, want)
	}
}

// ends tells whether Apply, and All of this change alone, return this cache, and whether the change was done.
func ends(t *testing.T, name string, c api.Cache, x api.Change, want api.Cache, done bool) {
	t.Helper()
	apply := func(c api.Cache) api.Cache {
		got, is := index.Apply(c, x)
		if is != done {
			t.Errorf("%s: Apply(%+v, %+v): %v", name, c, x, is)
		}
		return got
	}
	gives(t, name+": Apply", c, apply, want)
	all := func(c api.Cache) api.Cache {
		got, is := index.All(c, []api.Change{x})
		if is != done {
			t.Errorf("%s: All(%+v, %+v): %v", name, c, x, is)
		}
		return got
	}
	gives(t, name+": All", c, all, want)
	if err := index.Check(want); err != api.OK {
		t.Errorf("%s: Check(%+v) = %d", name, want, err)
	}
}

// does tells whether a change is done, and leaves this cache.
func does(t *testing.T, name string, c api.Cache, x api.Change, want api.Cache) {
	t.Helper()
	ends(t, name, c, x, want, true)
	m := modelOf(c)
	if is := m.apply(x); !is || !equal(m.cache(), want) {
		t.Errorf("%s: the model has %+v, %v", name, m.cache(), is)
	}
}

// refuses tells whether a change is refused, and leaves the cache as it was.
func refuses(t *testing.T, name string, c api.Cache, x api.Change) {
	t.Helper()
	ends(t, name, c, x, copied(c), false)
	if modelOf(c).apply(x) {
		t.Errorf("%s: the model does %+v", name, x)
	}
}

// checks tells whether a cache is valid, as it is wanted and as the model tells.
func checks(t *testing.T, name string, c api.Cache, want bool) {
	t.Helper()
	g := guarded(c)
	for _, c := range []api.Cache{c, g.given} {
		if err := index.Check(c); err != api.OK && err != api.ErrForm || (err == api.OK) != want {
			t.Errorf("%s: Check(%+v) = %d", name, c, err)
		}
	}
	g.holds(t, name)
	if validCache(c) != want {
		t.Errorf("%s: the model says of %+v: %v", name, c, !want)
	}
}

// with is a cache with another list of the kind.
func with(c api.Cache, list any) api.Cache {
	switch l := list.(type) {
	case []api.Held:
		c.Helds = l
	case []api.Cached:
		c.Files = l
	case []api.Known:
		c.Names = l
	case []api.Placed:
		c.Blocks = l
	}
	return c
}

// odd are numbers that no part of a cache may have, or just may have.
func odd() []int {
	return []int{math.MinInt, -high, -1, 0, 1, 2, place - 1, place, place + 1, high - 1, high, high + 1, math.MaxInt}
}
