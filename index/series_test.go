package index_test

import (
	"math/rand"
	"slices"
	"strconv"
	"testing"

	"posthouse/api"
	"posthouse/index"
	"posthouse/rec"
)

// pick is one of some values.
func pick[T any](r *rand.Rand, some ...T) T { return some[r.Intn(len(some))] }

// anyChange is a change of any kind with few values, so that much is there already; one of so many is not valid.
func anyChange(r *rand.Rand) api.Change {
	up := pick(r, "a", "ab", "b", "\x80", "\xff")
	name := pick(r, "x", "xy", "\x00", "\xff")
	epoch, serial, no := 1+r.Intn(3), 1+r.Intn(3), pick(r, 0, 1, 2, place)
	all := []api.Change{
		hold(epoch, serial, pick(r, up, "q", "z")), free(epoch, serial), file(up, attrOf(r.Intn(3))), gone(up), bare(up),
		named(up, name, pick(r, "", up, "u")), unname(up, name), block(up, no, pick(r, 0, 1, 2, 3, place)), unblock(up, no),
		file(up, attrOf(r.Intn(3))), named(up, name, ""), block(up, no, r.Intn(6)),
	}
	x := all[r.Intn(len(all))]
	if r.Intn(20) == 0 {
		x.Kind = r.Intn(12)
	}
	if r.Intn(20) == 0 {
		x.Slot = r.Intn(3) - 1
	}
	return x
}

// P18.1, P18.2, P18.3, P18.5: many changes one behind the other: each cache is what the model has, is valid, is made by its changes, and has what the lookups find; the slots that are lost are those that the model has no more.
func TestSeries(t *testing.T) {
	for seed := range 100 {
		r := rand.New(rand.NewSource(int64(seed)))
		c, m := api.Cache{}, modelOf(api.Cache{})
		for range 300 {
			x, was := anyChange(r), copied(c)
			next, is := index.Apply(c, x)
			if done := m.apply(x); is != done || !equal(next, m.cache()) || !equal(c, was) {
				t.Fatalf("Apply(%+v, %+v) = %+v, %v, want %+v, %v", was, x, next, is, m.cache(), done)
			}
			if !is && !index.Same(next, c) {
				t.Fatalf("%+v was refused, and made of %+v %+v", x, c, next)
			}
			if err := index.Check(next); err != api.OK || !validCache(next) {
				t.Fatalf("Check(%+v) = %d", next, err)
			}
			if made, is := index.All(api.Cache{}, rec.Changes(next)); !is || !index.Same(made, next) {
				t.Fatalf("All of what makes %+v: %+v, %v", next, made, is)
			}
			loses(t, "in a series", c, next, gonePlaces(c, next)...)
			c = next
		}
		looks(t, c)
	}
}

// gonePlaces is the slots of the one cache that are not those of the other, by looking at each that anyChange has.
func gonePlaces(was, now api.Cache) (l []int) {
	for _, slot := range []int{0, 1, 2, 3, 4, 5, place} {
		in := func(c api.Cache) bool {
			return slices.ContainsFunc(c.Blocks, func(b api.Placed) bool { return b.Slot == slot })
		}
		if in(was) && !in(now) {
			l = append(l, slot)
		}
	}
	return l
}

// P18.2: any changes at once end in the cache in which they end one after the other, or leave the cache as it was.
func TestSeriesAtOnce(t *testing.T) {
	r := rand.New(rand.NewSource(7))
	c := api.Cache{}
	done := 0
	for range 4000 {
		l := make([]api.Change, r.Intn(6))
		for i := range l {
			l[i] = anyChange(r)
		}
		want, all := copied(c), true
		for _, x := range l {
			next, is := index.Apply(want, x)
			want, all = next, all && is
		}
		if !all {
			want = c
		}
		got, is := index.All(c, l)
		if is != all || !equal(got, want) {
			t.Fatalf("All(%+v, %+v) = %+v, %v, want %+v, %v", c, l, got, is, want, all)
		}
		if is && len(l) > 1 {
			done++
		}
		c = got
	}
	if done < 100 {
		t.Errorf("only %d of the series were done", done)
	}
}

// P18.5: caches that were made from one another stay as they were, whatever is done afterwards with each.
func TestSeriesStays(t *testing.T) {
	r := rand.New(rand.NewSource(9))
	var made, were []api.Cache
	c := several()
	for range 300 {
		c, _ = index.Apply(c, anyChange(r))
		made, were = append(made, c), append(were, copied(c))
	}
	for len(made) > 0 {
		last := len(made) - 1
		spoil(made[last])
		made, were = made[:last], were[:last]
		if !slices.EqualFunc(made, were, equal) {
			t.Fatalf("the caches ahead of the %d. have changed", last)
		}
	}
}

// anyNumber and anyText are values of all sorts, most of which may not be.
func anyNumber(r *rand.Rand) int { return pick(r, append(odd(), 3, 4)...) }

func anyText(r *rand.Rand) string {
	return pick(r, "", "a", "ab", "b", "\xff", string(make([]byte, 65)), string(make([]byte, 256)))
}

func anyAttr(r *rand.Rand) api.Attr {
	a := attrOf(r.Intn(8) - 1)
	if r.Intn(3) == 0 {
		a.Type = anyNumber(r)
	}
	return a
}

// anyCache is a cache that is hardly ever valid.
func anyCache(r *rand.Rand) (c api.Cache) {
	for range r.Intn(6) {
		c.Helds = append(c.Helds, api.Held{Epoch: anyNumber(r), Serial: anyNumber(r), Up: anyText(r)})
	}
	for range r.Intn(6) {
		c.Files = append(c.Files, api.Cached{Up: anyText(r), Attr: anyAttr(r)})
	}
	for range r.Intn(6) {
		c.Names = append(c.Names, api.Known{Dir: anyText(r), Name: anyText(r), Up: anyText(r)})
	}
	for range r.Intn(6) {
		c.Blocks = append(c.Blocks, api.Placed{Up: anyText(r), No: anyNumber(r), Slot: anyNumber(r)})
	}
	return c
}

// P1, P18.1: whatever cache and change any call is given, it ends, does not panic, changes nothing that it was given, and returns the same once more.
func TestAnything(t *testing.T) {
	r := rand.New(rand.NewSource(11))
	for range 30000 {
		c, other := anyCache(r), anyCache(r)
		checks(t, "anything", c, validCache(c))
		x := anyChange(r)
		if r.Intn(2) == 0 {
			x = api.Change{Kind: pick(r, anyNumber(r), 1+r.Intn(9)), Epoch: anyNumber(r), Serial: anyNumber(r), Up: anyText(r), Name: anyText(r), Child: anyText(r), Attr: anyAttr(r), No: anyNumber(r), Slot: anyNumber(r)}
		}
		g := guarded(c)
		first, done := index.Apply(g.given, x)
		second, again := index.Apply(g.given, x)
		if !equal(first, second) || done != again {
			t.Errorf("Apply(%+v, %+v) = %+v, then %+v", c, x, first, second)
		}
		first, done = index.All(g.given, []api.Change{x, anyChange(r), anyChange(r)})
		if !done && !equal(first, c) {
			t.Errorf("All was refused, and made of %+v %+v", c, first)
		}
		spoil(first)
		spoil(second)
		index.Lost(g.given, other)
		same(t, "anything", c, other, equal(c, other))
		gives(t, "anything", c, index.Clone, c)
		g.holds(t, "anything")
	}
}

// P18.3: in a cache of any sort, what a lookup returns is there, and what is there is found.
func TestLookupsInAnything(t *testing.T) {
	r := rand.New(rand.NewSource(13))
	for range 3000 {
		c := anyCache(r)
		epoch, serial, up, name, no := anyNumber(r), anyNumber(r), anyText(r), anyText(r), anyNumber(r)
		if len(c.Helds) > 0 && r.Intn(2) == 0 {
			h := pick(r, c.Helds...)
			epoch, serial = h.Epoch, h.Serial
		}
		got, is := index.Holds(c, epoch, serial)
		among(t, "Holds", got, is, c.Helds, func(h api.Held) (string, bool) { return h.Up, h.Epoch == epoch && h.Serial == serial })
		held, is := index.Issued(c, up)
		among(t, "Issued", held, is, c.Helds, func(h api.Held) (api.Held, bool) { return h, h.Up == up })
		a, is := index.File(c, up)
		among(t, "File", a, is, c.Files, func(f api.Cached) (api.Attr, bool) { return f.Attr, f.Up == up })
		got, is = index.Name(c, up, name)
		among(t, "Name", got, is, c.Names, func(n api.Known) (string, bool) { return n.Up, n.Dir == up && n.Name == name })
		slot, is := index.Block(c, up, no)
		among(t, "Block", slot, is, c.Blocks, func(b api.Placed) (int, bool) { return b.Slot, b.Up == up && b.No == no })
	}
}

// among tells whether what was found is that of one of the elements that were asked for, or nothing if there are none.
func among[T any, V comparable](t *testing.T, name string, got V, is bool, l []T, asked func(T) (V, bool)) {
	t.Helper()
	var all []V
	for _, x := range l {
		if v, is := asked(x); is {
			all = append(all, v)
		}
	}
	if is != (len(all) > 0) || is && !slices.Contains(all, got) || !is && got != *new(V) {
		t.Errorf("%s: %+v, %v, want one of %+v", name, got, is, all)
	}
}

// P1, P18.1, P18.2: great caches.
func TestGreat(t *testing.T) {
	c := api.Cache{Files: []api.Cached{{Up: "a", Attr: attrOf(1)}}}
	for i := range place + 1 {
		c.Helds = append(c.Helds, api.Held{Epoch: 1, Serial: i + 1, Up: "u" + strconv.Itoa(i)})
		c.Names = append(c.Names, api.Known{Dir: "a", Name: strconv.Itoa(100000 + i)})
		c.Blocks = append(c.Blocks, api.Placed{Up: "a", No: i, Slot: place - i})
	}
	if err := index.Check(c); err != api.OK {
		t.Errorf("Check of a great cache: %d", err)
	}
	for _, x := range []api.Change{block("a", 0, 0), hold(2, 1, "u65535"), named("b", "x", "")} {
		if got, is := index.Apply(c, x); is || !equal(got, c) {
			t.Errorf("%+v: %v", x, is)
		}
	}
	if got, is := index.Apply(c, gone("a")); !is || !equal(got, api.Cache{Helds: c.Helds}) {
		t.Errorf("without its file: %v", is)
	}
	if l := index.Lost(c, api.Cache{}); len(l) != place+1 || !slices.IsSorted(l) {
		t.Errorf("%d slots are lost", len(l))
	}
	c.Blocks = append(c.Blocks, api.Placed{Up: "a", No: place + 1, Slot: place + 1})
	if err := index.Check(c); err != api.ErrForm {
		t.Errorf("Check of a cache with one block more than there may be: %d", err)
	}
}
