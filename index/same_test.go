package index_test

import (
	"math"
	"reflect"
	"slices"
	"testing"

	"posthouse/api"
	"posthouse/index"
)

// same tells whether Same of two caches, one way and the other, is what it should be, and changes neither.
func same(t *testing.T, name string, a, b api.Cache, want bool) {
	t.Helper()
	g, h := guarded(a), guarded(b)
	if index.Same(a, b) != want || index.Same(b, a) != want || index.Same(g.given, h.given) != want {
		t.Errorf("%s: Same(%+v, %+v) is not %v", name, a, b, want)
	}
	g.holds(t, name)
	h.holds(t, name)
}

// leaves is all numbers and strings in a value.
func leaves(v reflect.Value) (all []reflect.Value) {
	switch v.Kind() {
	case reflect.Struct:
		for i := range v.NumField() {
			all = append(all, leaves(v.Field(i))...)
		}
	case reflect.Slice:
		for i := range v.Len() {
			all = append(all, leaves(v.Index(i))...)
		}
	default:
		all = append(all, v)
	}
	return all
}

// P18.4: caches are the same as equal ones, and with empty lists whether they are nil or not.
func TestSameOfEqual(t *testing.T) {
	for i, a := range caches() {
		same(t, "equal", a, copied(a), true)
		same(t, "itself", a, a, true)
		for j, b := range caches() {
			same(t, "others", a, b, i == j || i+j == 1)
		}
	}
	same(t, "one list is nil, another one is not", api.Cache{Helds: []api.Held{}, Names: []api.Known{}}, api.Cache{Files: []api.Cached{}, Blocks: []api.Placed{}}, true)
}

// P18.4: caches that differ in one field of one element are not the same.
func TestSameOfOneField(t *testing.T) {
	c := several()
	n := len(leaves(reflect.ValueOf(&c).Elem()))
	if want := 6*3 + 6*11 + 7*3 + 7*3; n != want {
		t.Fatalf("%d fields, want %d", n, want)
	}
	for i := range n {
		for _, by := range []int{1, -1, 1 << 32} {
			other := copied(c)
			leaf := leaves(reflect.ValueOf(&other).Elem())[i]
			if leaf.Kind() == reflect.Int {
				leaf.SetInt(leaf.Int() + int64(by))
			} else {
				leaf.SetString(leaf.String() + string(rune('a'+by&1)))
			}
			same(t, "one field", c, other, false)
		}
	}
}

// P18.4: caches of which a list has another order, or an element less, more or twice, are not the same.
func TestSameOfOneList(t *testing.T) {
	for _, list := range []any{several().Helds, several().Files, several().Names, several().Blocks} {
		v := reflect.ValueOf(list)
		c, n := several(), v.Len()
		for i := range n {
			less := reflect.AppendSlice(reflect.AppendSlice(reflect.MakeSlice(v.Type(), 0, n), v.Slice(0, i)), v.Slice(i+1, n))
			same(t, "one less", c, with(c, less.Interface()), false)
			twice := reflect.Append(reflect.AppendSlice(reflect.MakeSlice(v.Type(), 0, n+1), v), v.Index(i))
			same(t, "one twice", c, with(c, twice.Interface()), false)
			same(t, "only the first", c, with(c, v.Slice(0, i).Interface()), false)
			for j := range i {
				other := reflect.AppendSlice(reflect.MakeSlice(v.Type(), 0, n), v)
				reflect.Swapper(other.Interface())(i, j)
				same(t, "another order", c, with(c, other.Interface()), false)
			}
		}
	}
}

// P18.4: a copy is equal, and what is done with its lists leaves the other as it was, and the other way round; also if it is not valid.
func TestClone(t *testing.T) {
	odd := api.Cache{
		Helds:  []api.Held{{}, {Epoch: -1, Serial: math.MinInt, Up: "z"}, {}},
		Files:  []api.Cached{{Up: "b"}, {Up: "a", Attr: attrOf(-1)}},
		Names:  []api.Known{{Dir: "z", Name: "y", Up: "x"}, {}},
		Blocks: []api.Placed{{Up: "b", No: -1, Slot: math.MaxInt}, {}, {}},
	}
	for _, c := range append(caches(), odd) {
		gives(t, "Clone", c, index.Clone, c)
		same(t, "Clone", c, index.Clone(c), true)
	}
}

// P18.4: what is appended to a copy's lists, and to the other's, is not in the lists of the one that has them.
func TestCloneAppended(t *testing.T) {
	g := guarded(several())
	own := index.Clone(g.given)
	more := append(own.Helds, api.Held{Up: "more"})
	_ = append(g.given.Helds, api.Held{Up: "other"})
	if !slices.Equal(more[:6], several().Helds) || more[6].Up != "more" || !equal(own, several()) {
		t.Errorf("a copy with one more: %+v, %+v", more, own)
	}
}

// slotsOf is a cache of blocks in these slots.
func slotsOf(slots ...int) (c api.Cache) {
	for i, slot := range slots {
		c.Blocks = append(c.Blocks, api.Placed{Up: "f", No: i, Slot: slot})
	}
	return filed(c.Blocks)
}

// loses tells whether these slots are lost.
func loses(t *testing.T, name string, was, now api.Cache, want ...int) {
	t.Helper()
	g, h := guarded(was), guarded(now)
	first, second := index.Lost(g.given, h.given), index.Lost(was, now)
	if !slices.Equal(first, want) || !slices.Equal(second, want) {
		t.Errorf("%s: Lost(%+v, %+v) = %v and %v, want %v", name, was.Blocks, now.Blocks, first, second, want)
	}
	fill(first, -7)
	g.holds(t, name)
	h.holds(t, name)
	if !slices.Equal(index.Lost(was, now), want) {
		t.Errorf("%s: after what was returned was spoilt, it is another", name)
	}
}

// P18.4: the slots that were in use, and are no more, in ascending order.
func TestLost(t *testing.T) {
	some := slotsOf(5, 0, place, 3)
	loses(t, "no blocks", api.Cache{}, api.Cache{})
	loses(t, "no blocks", none(), none())
	loses(t, "none before", api.Cache{}, some)
	loses(t, "none now", some, api.Cache{}, 0, 3, 5, place)
	loses(t, "the same", some, some)
	loses(t, "in both", some, slotsOf(place, 5, 3, 0))
	loses(t, "some", some, slotsOf(5, 3), 0, place)
	loses(t, "the least", some, slotsOf(5, place, 3), 0)
	loses(t, "the highest", some, slotsOf(5, 0, 3), place)
	loses(t, "one in the middle", some, slotsOf(5, 0, place), 3)
	loses(t, "new ones", slotsOf(5, 3), some)
	loses(t, "all others", slotsOf(9, 7, 8), slotsOf(4, 10, 6, 0), 7, 8, 9)
	loses(t, "as numbers, not as texts", slotsOf(10, 9, 100, 2), api.Cache{}, 2, 9, 10, 100)
}

// P18.4: a slot that has another block now is not lost; that a block is in another one now, is.
func TestLostWhenMoved(t *testing.T) {
	c := several()
	loses(t, "moved", c, with(c, set(c.Blocks, 0, api.Placed{Up: "a", No: 0, Slot: 6})), 5)
	now := with(c, []api.Placed{{Up: "\xff", No: 1, Slot: 5}, {Up: "\xff", No: 2, Slot: 0}})
	loses(t, "other files' now", c, now, 1, 2, 3, 9, place)
	turned := copied(c)
	for i := range turned.Blocks {
		turned.Blocks[i].Slot = c.Blocks[(i+1)%len(c.Blocks)].Slot
	}
	loses(t, "each in the next one's", c, turned)
	loses(t, "nothing but blocks counts", api.Cache{Blocks: c.Blocks}, c)
	loses(t, "a file gone", c, bared(c, "a"), 0, 5, place)
}

// P18.4: slots of caches that are not valid: in no order, twice, such as there are not.
func TestLostOfOdd(t *testing.T) {
	far := slotsOf(math.MaxInt, -1, math.MinInt, 65536, 0, high+1)
	loses(t, "far", far, api.Cache{}, math.MinInt, -1, 0, 65536, high+1, math.MaxInt)
	loses(t, "far", far, slotsOf(0, -1, high), math.MinInt, 65536, high+1, math.MaxInt)
	loses(t, "far now", slotsOf(1, 0), far, 1)
	loses(t, "twice", slotsOf(4, 2, 4, 2, 4), api.Cache{}, 2, 4)
	loses(t, "twice, and once now", slotsOf(4, 2, 4, 2, 4), slotsOf(4), 2)
	loses(t, "twice now", slotsOf(4, 2), slotsOf(2, 9, 2), 4)
	loses(t, "blocks of no file", api.Cache{Blocks: []api.Placed{{Slot: 3}, {No: -1, Slot: 1}}}, api.Cache{}, 1, 3)
}
