package store_test

import (
	"slices"
	"testing"

	"posthouse/api"
	"posthouse/store"
)

// P19.6: Barrier persists all transactions, those of Do and of Put, and nothing else happens.
func TestBarrier(t *testing.T) {
	c := small()
	s, d := withFile(t, c)
	for n := range 40 {
		does(t, "one more", s, api.OK, file("f", n), file("g", n))
		switch n % 4 {
		case 1:
			puts(t, "one more", s, api.OK, "f", n, "data")
		case 2:
			does(t, "one more", s, api.OK, hold(n, 1, "u"), named("f", "a", "g"))
		case 3:
			does(t, "one more", s, api.OK, unblock("f", n-2), free(n-1, 1), bare("g"))
		}
		want, h, count, room := s.Cache(), headerOf(t, d), s.Count(), s.Room()
		for range n % 3 {
			barrier(t, s)
		}
		if n%3 > 0 && (d.Waiting() > 0 || headerOf(t, d) != h || s.Count() != count || s.Room() != room) {
			t.Fatalf("%d writes wait, the header is %+v, Count %d, Room %d", d.Waiting(), headerOf(t, d), s.Count(), s.Room())
		}
		has(t, "behind the barrier", s, want)
		if n%3 > 0 {
			has(t, "persisted", opens(t, "persisted", diskOf(t, d.Image()), c), want)
		}
	}
}

// P19.6: a disk that has failed, and one that fails at the barrier; behind it the transactions that waited are gone if the crash keeps none.
func TestBarrierFails(t *testing.T) {
	c := small()
	s, d := withFile(t, c)
	was := s.Cache()
	does(t, "one more", s, api.OK, file("g", 1))
	d.Arm(0)
	for range 2 {
		if err := s.Barrier(); err != api.ErrDown || !d.Dead() {
			t.Fatalf("Barrier: error %d", err)
		}
	}
	d.Crash(nil)
	has(t, "behind a crash", opens(t, "behind a crash", d, c), was)
}

// P19.6: Checkpoint stores the cache in the other area and persists it, lets the header name it, and the journal begin anew, since the store's epoch; nothing else changes. So many times, with and without transactions in between.
func TestCheckpoint(t *testing.T) {
	c := api.Config{Handles: 40, Files: 9, Names: 9, Slots: 9, Ring: 19}
	s, d := started(t, c)
	serial := 0
	for n := range 60 {
		h, room := headerOf(t, d), s.Room()
		records := len(recordsOf(t, d, c, h))
		for range n % 4 {
			serial++
			does(t, "one more", s, api.OK, hold(1, serial, wide(serial, 4)), file("f", serial))
			records++
			if serial > 35 {
				does(t, "one less", s, api.OK, free(1, serial-35))
				records++
			}
		}
		if n%5 == 1 {
			puts(t, "one more", s, api.OK, "f", n/5%8, "data")
			records++
		}
		want, count, epoch := s.Cache(), s.Count(), s.Epoch()
		room -= s.Room()
		if err := s.Checkpoint(); err != api.OK {
			t.Fatalf("Checkpoint: error %d", err)
		}
		checkpointed(t, "a checkpoint", d, c, h, records, room, want)
		has(t, "a checkpoint", s, want)
		if s.Count() != count || s.Epoch() != epoch || s.Room() != c.Ring || d.Waiting() != 0 {
			t.Fatalf("Count %d behind %d, Epoch %d behind %d, Room %d, %d writes wait", s.Count(), count, s.Epoch(), epoch, s.Room(), d.Waiting())
		}
		if got := recordsOf(t, d, c, headerOf(t, d)); len(got) != 0 {
			t.Fatalf("the journal has %q", got)
		}
		has(t, "persisted", finds(t, "persisted", diskOf(t, d.Image()), c, want), want)
		if n%9 == 8 {
			s = finds(t, "again", d, c, want)
		}
	}
}

// P19.6: the caches that just fit, in stores of any size: their texts have room in the areas, as do texts of as many changes as one record has, one more, one less.
func TestCheckpointFull(t *testing.T) {
	l := configs()
	for n := range 20 {
		l = append(l, api.Config{Handles: 1 + n, Files: 1, Names: n % 3, Slots: 1 + n%2, Ring: 16})
	}
	for _, c := range l {
		all := fullOf(c)
		d := wasMade(t, c, begin(1), textOf(t, all))
		s := opens(t, "full", d, c)
		for range 3 {
			h := headerOf(t, d)
			if err := s.Checkpoint(); err != api.OK {
				t.Fatalf("%+v: Checkpoint: error %d", c, err)
			}
			checkpointed(t, "full", d, c, h, 0, 0, all)
			s = finds(t, "full", d, c, all)
		}
	}
}

// P19.6: blocks keep their data, and their slots, over checkpoints.
func TestCheckpointOfBlocks(t *testing.T) {
	c := small()
	s, d := withFile(t, c)
	for n := range 30 {
		isPut(t, "a block", s, d, c, "f", 1, wide(n, 9))
		if n%3 == 0 {
			isPut(t, "a block", s, d, c, "f", 2, wide(n, 10))
		}
		if err := s.Checkpoint(); err != api.OK {
			t.Fatalf("Checkpoint: error %d", err)
		}
		gets(t, "here", s, api.OK, "f", 1, padded(wide(n, 9)))
		other := opens(t, "persisted", diskOf(t, d.Image()), c)
		gets(t, "persisted", other, api.OK, "f", 1, padded(wide(n, 9)))
		gets(t, "persisted", other, api.OK, "f", 2, padded(wide(n-n%3, 10)))
	}
}

// P19.6: a disk that fails at each write and barrier of a checkpoint: ErrDown. Whatever is kept then: what was persisted is there, and what waited is there, or not.
func TestCheckpointFails(t *testing.T) {
	c := api.Config{Handles: 20, Files: 3, Names: 3, Slots: 3, Ring: 30}
	for set := range 64 {
		fuse := 0
		for ; ; fuse++ {
			s, d := withFile(t, c)
			for n := range 16 {
				does(t, "a handle", s, api.OK, hold(1, n+1, wide(n, api.FhSize)))
			}
			puts(t, "a block", s, api.OK, "f", 1, "data")
			barrier(t, s)
			was := s.Cache()
			does(t, "one more", s, api.OK, named("f", "a", ""))
			now := s.Cache()
			d.Arm(fuse)
			err := s.Checkpoint()
			if err != api.OK && (err != api.ErrDown || !d.Dead()) {
				t.Fatalf("a fuse of %d: error %d", fuse, err)
			}
			d.Crash(slices.DeleteFunc(everything(d), func(i int) bool { return set>>(i%6)&1 == 0 }))
			again := opens(t, "behind a crash", d, c)
			if got := again.Cache(); !equal(got, now) && (err == api.OK || !equal(got, was)) {
				t.Fatalf("a fuse of %d, kept %b: error %d, found %+v", fuse, set, err, got)
			}
			gets(t, "behind a crash", again, api.OK, "f", 1, padded("data"))
			if err == api.OK {
				break
			}
		}
		if fuse < 4 {
			t.Errorf("%d writes and barriers were enough", fuse)
		}
	}
}

// P19.6: a disk that has failed.
func TestCheckpointDown(t *testing.T) {
	s, d := withFile(t, small())
	failed(d)
	for _, call := range []func(s *store.Store) api.Errno{(*store.Store).Checkpoint, (*store.Store).Barrier} {
		keeps(t, "failed", s, d, func() {
			if err := call(s); err != api.ErrDown {
				t.Errorf("error %d", err)
			}
		})
	}
}
