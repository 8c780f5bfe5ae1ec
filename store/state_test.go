package store_test

import (
	"math"
	"strings"
	"testing"

	"posthouse/api"
	"posthouse/disk"
	"posthouse/index"
	"posthouse/store"
)

// The chapter's example.
func TestExample(t *testing.T) {
	c := small()
	s, d := started(t, c)
	does(t, "ChFile of f", s, api.OK, file("f", 1))
	barrier(t, s)
	does(t, "ChGone of f", s, api.OK, gone("f"))
	has(t, "ahead of the crash", s, api.Cache{})
	d.Crash(nil)
	has(t, "behind the crash", opens(t, "behind the crash", d, c), api.Cache{Files: []api.Cached{{Up: "f", Attr: attrOf(1)}}})
}

// P19.7: the numbers behind each call.
func TestNumbers(t *testing.T) {
	c := small()
	d := formatted(t, c)
	first := headerOf(t, d).Epoch
	s := opens(t, "new", d, c)
	is := func(name string, epoch, count, room int) {
		t.Helper()
		for range 2 {
			if s.Epoch() != epoch || s.Count() != count || s.Room() != room {
				t.Fatalf("%s: Epoch %d, Count %d, Room %d, want %d, %d, %d", name, s.Epoch(), s.Count(), s.Room(), epoch, count, room)
			}
		}
	}
	is("new", first+1, 0, 16)
	does(t, "Do", s, api.OK, file("f", 1))
	is("Do", first+1, 1, 15)
	does(t, "Do of nothing", s, api.OK)
	is("Do of nothing", first+1, 1, 15)
	does(t, "Do refused", s, api.ErrArg, gone("x"))
	is("Do refused", first+1, 1, 15)
	// 4 and twice 80 bytes, but for fifteen that the Ups are shorter, padded: 140.
	does(t, "Do of two", s, api.OK, file("f", 2), file("g", 1))
	is("Do of two", first+1, 2, 13)
	puts(t, "Put", s, api.OK, "f", 1, "data")
	is("Put", first+1, 3, 12)
	puts(t, "Put refused", s, api.ErrNone, "x", 1, "data")
	is("Put refused", first+1, 3, 12)
	gets(t, "Get", s, api.OK, "f", 1, padded("data"))
	is("Get", first+1, 3, 12)
	barrier(t, s)
	is("Barrier", first+1, 3, 12)
	s = opens(t, "again", d, c)
	is("Open again", first+2, 0, 12)
	does(t, "Do", s, api.OK, gone("g"))
	is("Do", first+2, 1, 11)
	if err := s.Checkpoint(); err != api.OK {
		t.Fatalf("Checkpoint: error %d", err)
	}
	is("Checkpoint", first+2, 1, 16)
	does(t, "Do", s, api.OK, file("g", 1))
	is("Do", first+2, 2, 15)
	d.Crash(nil)
	s = opens(t, "behind a crash", d, c)
	is("Open behind a crash", first+3, 0, 16)
	for n := range 16 {
		does(t, "Do", s, api.OK, file("f", n))
	}
	is("full", first+3, 16, 0)
	does(t, "Do", s, api.OK, file("f", 1))
	is("a checkpoint ahead", first+3, 17, 15)
	failed(d)
	is("failed", first+3, 17, 15)
	formats(t, diskOf(t, d.Image()), c, api.OK)
	is("another disk", first+3, 17, 15)
}

// spoil overwrites a cache's lists, and all of their memory.
func spoil(c api.Cache) {
	fill(c.Helds, api.Held{Epoch: -1, Serial: -1, Up: "spoilt"})
	fill(c.Files, api.Cached{Up: "spoilt", Attr: attrOf(9)})
	fill(c.Names, api.Known{Dir: "spoilt", Name: "spoilt", Up: "spoilt"})
	fill(c.Blocks, api.Placed{Up: "spoilt", No: -1, Slot: -1})
}

func fill[T any](l []T, x T) {
	for i := range l[:cap(l)] {
		l[:cap(l)][i] = x
	}
}

// P19.7: what is done with a cache that was returned changes nothing of the store, nor of what was returned before or is later.
func TestCacheIsNew(t *testing.T) {
	c := small()
	s, d := withFile(t, c)
	does(t, "more", s, api.OK, hold(1, 1, "u"), hold(1, 2, "v"), file("g", 1), named("f", "a", "g"), named("f", "b", ""))
	puts(t, "more", s, api.OK, "f", 7, "data")
	first, want := s.Cache(), s.Cache()
	spoil(s.Cache())
	keeps(t, "spoilt", s, d, func() { spoil(s.Cache()) })
	has(t, "spoilt", s, want)
	if !equal(first, want) {
		t.Errorf("what was returned has become %+v", first)
	}
	gets(t, "spoilt", s, api.OK, "f", 7, padded("data"))
	does(t, "spoilt", s, api.OK, file("g", 2), free(1, 1), unname("f", "a"), unblock("f", 7))
	if !equal(first, want) {
		t.Errorf("behind a transaction what was returned has become %+v", first)
	}
	want = after(t, want, file("g", 2), free(1, 1), unname("f", "a"), unblock("f", 7))
	spoil(first)
	has(t, "behind a transaction", s, want)
	if err := s.Checkpoint(); err != api.OK {
		t.Fatalf("Checkpoint: error %d", err)
	}
	has(t, "persisted", opens(t, "persisted", diskOf(t, d.Image()), c), want)
	if err := index.Check(s.Cache()); err != api.OK {
		t.Errorf("the cache is not valid: %d", err)
	}
}

// P19.7: two stores on two disks have nothing in common.
func TestTwoStores(t *testing.T) {
	c := small()
	one, d := withFile(t, c)
	two, _ := withFile(t, c)
	keeps(t, "another store", one, d, func() {
		does(t, "another", two, api.OK, gone("f"), file("g", 2))
		puts(t, "another", two, api.OK, "g", 1, "data")
		barrier(t, two)
		two.Checkpoint()
	})
}

// P19.7: no store.
func TestNil(t *testing.T) {
	var s *store.Store
	for _, l := range [][]api.Change{nil, {}, {file("f", 1)}, {block("f", 0, 0)}, make([]api.Change, 9)} {
		does(t, "nil", s, api.ErrNil, l...)
	}
	puts(t, "nil", s, api.ErrNil, "f", 0, "data")
	puts(t, "nil", s, api.ErrNil, wide(1, 17), -1, strings.Repeat("d", 129))
	gets(t, "nil", s, api.ErrNil, "f", 0, "")
	gets(t, "nil", s, api.ErrNil, "", -1, "")
	if s.Barrier() != api.ErrNil || s.Checkpoint() != api.ErrNil {
		t.Error("Barrier or Checkpoint of nil")
	}
	if s.Epoch() != 0 || s.Count() != 0 || s.Room() != 0 || !equal(s.Cache(), api.Cache{}) {
		t.Error("a number or the cache of nil")
	}
}

// calls makes all calls of a store, with arguments of any sort.
func calls(s *store.Store) {
	for _, n := range []int{math.MinInt, -1, 0, 1, 65535, 65536, 1 << 32, math.MaxInt} {
		for _, up := range []string{"", "f", wide(1, 16), wide(1, 17), strings.Repeat("u", 70000)} {
			for _, kind := range []int{n, 1, 2, 3, 4, 5, 6, 7, 8, 9, 10} {
				x := api.Change{Kind: kind, Epoch: n, Serial: n, Up: up, Name: up, Child: up, Attr: attrOf(n), No: n, Slot: n}
				s.Do([]api.Change{x})
				s.Do([]api.Change{file("f", 1), x, x})
				s.Do([]api.Change{hold(n, n, up), free(n, n), file(up, n), named(up, up, up), unblock(up, n), gone(up)})
			}
			s.Put(up, n, up)
			s.Get(up, n)
		}
		s.Do(make([]api.Change, max(0, min(n, 1<<17))))
	}
	s.Cache()
	s.Barrier()
	s.Checkpoint()
	s.Epoch()
	s.Count()
	s.Room()
}

// P1: no call panics, whatever it is given, and each ends.
func TestNoCallPanics(t *testing.T) {
	all := append(append(wrong(), configs()...), api.Config{})
	for _, n := range numbers() {
		all = append(all, api.Config{Handles: n, Files: n, Names: n, Slots: n, Ring: n})
	}
	c := small()
	blocks, one := newDisk(t, 65536), newDisk(t, 1)
	disks := []*disk.Disk{nil, {}, one, blocks, failed(formatted(t, c)), formatted(t, c)}
	for _, d := range disks {
		for _, other := range all {
			store.Check(other)
			store.Sectors(other)
			store.Open(d, other)
			store.Format(d, other)
			if s, err := store.Open(d, other); err == api.OK && other.Ring < 100 {
				calls(s)
			}
		}
	}
	calls(nil)
	s, d := withFile(t, c)
	calls(s)
	failed(d)
	calls(s)
	d.Crash(everything(d))
	calls(s)
	d.Arm(3)
	calls(s)
}

// P1, P19.3: a store opened with other configs than the one it was made for: it is a store, or there is an error; no call of it panics.
func TestOtherConfigs(t *testing.T) {
	d := newDisk(t, 200)
	c := api.Config{Handles: 9, Files: 9, Names: 9, Slots: 9, Ring: 30}
	formats(t, d, c, api.OK)
	s := opens(t, "its own", d, c)
	does(t, "its own", s, api.OK, file("f", 1), hold(1, 1, "u"), named("f", "a", ""))
	for n := range 70 {
		puts(t, "its own", s, api.OK, "f", n%8, wide(n, 9))
	}
	barrier(t, s)
	for _, one := range limits() {
		for n := one.least; n <= min(one.most, 60); n += 4 {
			other := c
			*one.of(&other) = n
			copied := diskOf(t, d.Image())
			got, err := store.Open(copied, other)
			if (got == nil) == (err == api.OK) {
				t.Fatalf("%+v: store %v, error %d", other, got != nil, err)
			}
			calls(got)
		}
	}
}

// P1, P19.3: headers, areas and journals of any sort: Open ends with a store or with an error; no call of it panics.
func TestOddDisks(t *testing.T) {
	c := small()
	text := textOf(t, after(t, api.Cache{}, file("f", 1), block("f", 1, 2)))
	for _, h := range []api.Head{
		{Epoch: high, Since: 1, Next: 1}, {Epoch: high - 1, Since: high - 1, Next: 1}, {Epoch: 1, Since: 1, Next: math.MaxInt},
		{Epoch: 1, Since: 1, Next: math.MaxInt - 1, Pos: 15}, {Epoch: 5, Since: 5, Next: 9, Pos: 15, Area: 1},
	} {
		d := wasMade(t, c, h, text)
		if s, err := store.Open(d, c); (s == nil) == (err == api.OK) {
			t.Fatalf("%+v: store %v, error %d", h, s != nil, err)
		} else {
			calls(s)
		}
		store.Format(d, c)
	}
	for _, pos := range []int{16, 17, 511, 65535} {
		d := wasMade(t, c, begin(1), text)
		h := headerOf(t, d)
		h.Pos = pos
		saves(t, d, h)
		if s, err := store.Open(d, c); s != nil || err == api.OK {
			t.Errorf("a journal that begins at %d: store %v, error %d", pos, s != nil, err)
		}
	}
}
