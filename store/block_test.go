package store_test

import (
	"math"
	"slices"
	"strings"
	"testing"

	"posthouse/api"
	"posthouse/disk"
	"posthouse/index"
	"posthouse/store"
)

// withFile is a store with the file f, and nothing that waits.
func withFile(t *testing.T, c api.Config) (*store.Store, *disk.Disk) {
	t.Helper()
	s, d := started(t, c)
	does(t, "a file", s, api.OK, file("f", 1))
	barrier(t, s)
	return s, d
}

// barrier makes one that must be made.
func barrier(t *testing.T, s *store.Store) {
	t.Helper()
	if err := s.Barrier(); err != api.OK {
		t.Fatalf("Barrier: error %d", err)
	}
}

// slotOf is the slot of a block that must be there.
func slotOf(t *testing.T, name string, s *store.Store, up string, no int) int {
	t.Helper()
	slot, is := index.Block(s.Cache(), up, no)
	if !is {
		t.Fatalf("%s: there is no block %d of %q", name, no, up)
	}
	return slot
}

// isPut tells whether a block gets data by one transaction that waits, while its data and all that waited is persisted: in a slot in which no block was ahead of it, and without anything else that changes.
func isPut(t *testing.T, name string, s *store.Store, d *disk.Disk, c api.Config, up string, no int, data string) {
	t.Helper()
	was, before, h := s.Cache(), s.Count(), headerOf(t, d)
	_, barriers := d.Count()
	puts(t, name, s, api.OK, up, no, data)
	slot := slotOf(t, name, s, up, no)
	has(t, name, s, after(t, was, block(up, no, slot)))
	gets(t, name, s, api.OK, up, no, padded(data))
	if slot < 0 || slot >= c.Slots || slices.ContainsFunc(was.Blocks, func(b api.Placed) bool { return b.Slot == slot }) {
		t.Fatalf("%s: the slot %d of %d, with the blocks %+v", name, slot, c.Slots, was.Blocks)
	}
	if got := d.Image()[planOf(c).slots+slot]; got != padded(data) {
		t.Fatalf("%s: in the slot %d there is %q", name, slot, got)
	}
	if _, now := d.Count(); s.Count() != before+1 || d.Waiting() != 1 || now == barriers {
		t.Fatalf("%s: Count %d behind %d, %d writes wait, %d barriers behind %d", name, s.Count(), before, d.Waiting(), now, barriers)
	}
	records := recordsOf(t, d, c, headerOf(t, d))
	if len(records) == 0 || records[len(records)-1] != recordOf(t, block(up, no, slot)) {
		t.Fatalf("%s: the journal has %q", name, records)
	}
	if h != headerOf(t, d) && len(records) != 1 {
		t.Fatalf("%s: behind a checkpoint there are %d records", name, len(records))
	}
	kept := diskOf(t, d.Image())
	has(t, name+", persisted", opens(t, name, kept, c), was)
}

// P19.5: files with short and long Ups, numbers up to the last one, data of each length.
func TestPut(t *testing.T) {
	c := api.Config{Handles: 1, Files: 3, Names: 1, Slots: 256, Ring: 30}
	s, d := started(t, c)
	does(t, "files", s, api.OK, file("f", 1), file(wide(2, api.FhSize), 2), file("\x00", 3))
	barrier(t, s)
	for _, no := range []int{0, 1, 2, 255, 256, 32767, 65534, 65535} {
		for _, up := range []string{"f", wide(2, api.FhSize), "\x00"} {
			for _, n := range []int{0, 1, 2, 127, 128} {
				isPut(t, "a block", s, d, c, up, no, strings.Repeat(string(rune('a'+n%26)), n))
			}
		}
	}
	isPut(t, "bytes of any sort", s, d, c, "f", 3, "\x00\xff\x00\x80"+blank[:100]+"\n")
}

// isRefused tells whether Put answers an error, and nothing happens.
func isRefused(t *testing.T, name string, s *store.Store, d *disk.Disk, want api.Errno, up string, no int, data string) {
	t.Helper()
	keeps(t, name, s, d, func() { puts(t, name, s, want, up, no, data) })
}

// P19.5: the errors of Put, and which of them comes first.
func TestPutErrors(t *testing.T) {
	c := api.Config{Handles: 1, Files: 3, Names: 1, Slots: 2, Ring: 30}
	s, d := started(t, c)
	does(t, "files", s, api.OK, file("f", 1), file("g", 1))
	some := strings.Repeat("d", size)
	all := func(state string, file, other api.Errno) {
		t.Helper()
		for _, up := range []string{"f", "g", "none", wide(1, api.FhSize)} {
			for _, no := range []int{math.MinInt, -65536, -1, 65536, 1 << 32, math.MaxInt} {
				isRefused(t, state+", a wrong number", s, d, api.ErrArg, up, no, some)
			}
			for _, n := range []int{129, 130, 256, 1000} {
				isRefused(t, state+", too much data", s, d, api.ErrArg, up, 7, strings.Repeat("d", n))
			}
		}
		for _, n := range []int{17, 18, 64, 65, 1000} {
			isRefused(t, state+", too long an Up", s, d, api.ErrArg, wide(1, n), 7, some)
		}
		for _, up := range []string{"", "e", "fg", "\x00", wide(1, api.FhSize)} {
			isRefused(t, state+", no such file", s, d, other, up, 7, some)
		}
		for _, no := range []int{0, 1, 7, 65535} {
			if file != api.OK {
				isRefused(t, state+", a file", s, d, file, "f", no, some)
				isRefused(t, state+", a file", s, d, file, "g", no, "")
			}
		}
	}
	all("empty", api.OK, api.ErrNone)
	isPut(t, "a block", s, d, c, "f", 0, "first")
	all("half full", api.OK, api.ErrNone)
	isPut(t, "a block", s, d, c, "g", 1, "second")
	all("full", api.ErrFull, api.ErrNone)
	barrier(t, s)
	all("full, persisted", api.ErrFull, api.ErrNone)
	failed(d)
	all("full, failed", api.ErrFull, api.ErrNone)
	d.Crash(nil)
	s = opens(t, "again", d, c)
	all("full, again", api.ErrFull, api.ErrNone)
	does(t, "one gone", s, api.OK, unblock("f", 0))
	failed(d)
	all("half full, failed", api.ErrDown, api.ErrNone)
}

// P19.5: Get's errors: no such block, and a disk that has failed.
func TestGetErrors(t *testing.T) {
	c := small()
	s, d := started(t, c)
	none := func(name string) {
		t.Helper()
		for _, up := range []string{"", "f", "g", "ff", wide(1, 16), wide(1, 17), wide(1, 1000)} {
			for _, no := range []int{math.MinInt, -1, 1, 2, 7, 65534, 65535, 65536, 1 << 32, math.MaxInt} {
				keeps(t, name, s, d, func() { gets(t, name, s, api.ErrNone, up, no, "") })
			}
		}
		gets(t, name, s, api.ErrNone, "g", 0, "")
	}
	none("empty")
	gets(t, "empty", s, api.ErrNone, "f", 0, "")
	does(t, "files", s, api.OK, file("f", 1), file("g", 1))
	none("files")
	isPut(t, "a block", s, d, c, "f", 0, "data")
	none("a block")
	keeps(t, "a block", s, d, func() { gets(t, "a block", s, api.OK, "f", 0, padded("data")) })
	failed(d)
	none("failed")
	gets(t, "failed", s, api.ErrDown, "f", 0, "")
	d.Crash([]int{0})
	s = opens(t, "again", d, c)
	gets(t, "again", s, api.OK, "f", 0, padded("data"))
	none("again")
	does(t, "gone", s, api.OK, unblock("f", 0))
	none("gone")
	gets(t, "gone", s, api.ErrNone, "f", 0, "")
}

// P19.5: a block is put again, and has the new data; the slot in which it was is used again, though by then it was waited for. Other blocks keep their data.
func TestPutAgain(t *testing.T) {
	for slots := 2; slots < 6; slots++ {
		c := api.Config{Handles: 1, Files: 1, Names: 0, Slots: slots, Ring: 16}
		s, d := withFile(t, c)
		for no := range slots - 2 {
			isPut(t, "another", s, d, c, "f", 100+no, strings.Repeat("o", no))
		}
		last, seen := -1, map[int]bool{}
		for n := range 50 {
			isPut(t, "again", s, d, c, "f", 7, strings.Repeat(string(rune('a'+n%26)), n))
			slot := slotOf(t, "again", s, "f", 7)
			if slot == last {
				t.Fatalf("the slot %d, where the block was", slot)
			}
			last, seen[slot] = slot, true
			if n%7 == 6 {
				barrier(t, s)
			}
			if n%20 == 19 {
				s = opens(t, "again", d, c)
			}
			for no := range slots - 2 {
				gets(t, "another", s, api.OK, "f", 100+no, padded(strings.Repeat("o", no)))
			}
		}
		if len(seen) != 2 {
			t.Errorf("of %d slots %d were used", slots, len(seen))
		}
	}
}

// ways are how the block 1 of f goes, while f stays.
func ways() map[string][]api.Change {
	return map[string][]api.Change{
		"ChUnblock": {unblock("f", 1)},
		"ChBare":    {bare("f")},
		"ChGone":    {gone("f"), file("f", 1)},
		"several":   {file("f", 2), unblock("f", 1), file("f", 3), bare("f")},
	}
}

// P19.5: where all slots were full and one block is gone, whatever took it away, the next one goes to its slot, whether there was a barrier or not.
func TestPutWhereOneIsGone(t *testing.T) {
	for name, l := range ways() {
		for _, between := range []func(s *store.Store) api.Errno{nil, (*store.Store).Barrier, (*store.Store).Checkpoint} {
			c := api.Config{Handles: 1, Files: 2, Names: 0, Slots: 2, Ring: 40}
			s, d := withFile(t, c)
			does(t, name, s, api.OK, file("h", 1))
			isPut(t, name, s, d, c, "h", 0, "other")
			for n := range 10 {
				isPut(t, name, s, d, c, "f", 1, strings.Repeat("d", n))
				slot := slotOf(t, name, s, "f", 1)
				isRefused(t, name, s, d, api.ErrFull, "h", 1, "full")
				does(t, name, s, api.OK, l...)
				if between != nil && between(s) != api.OK {
					t.Fatalf("%s: no barrier", name)
				}
				isPut(t, name, s, d, c, "f", 2, strings.Repeat("e", n))
				if got := slotOf(t, name, s, "f", 2); got != slot {
					t.Fatalf("%s: the slot %d, free was %d", name, got, slot)
				}
				gets(t, name, s, api.ErrNone, "f", 1, "")
				gets(t, name, s, api.OK, "h", 0, padded("other"))
				does(t, name, s, api.OK, unblock("f", 2))
			}
		}
	}
}

// P19.5, P19.8: the data of a block that is gone stays till that is persisted: wherever the disk fails while another one is put, the one is there with its data, or it is gone.
func TestPutSpares(t *testing.T) {
	for slots := 1; slots < 4; slots++ {
		for name, l := range ways() {
			for set := range 4 {
				for fuse := 0; ; fuse++ {
					c := api.Config{Handles: 1, Files: 1, Names: 0, Slots: slots, Ring: 16}
					s, d := withFile(t, c)
					isPut(t, name, s, d, c, "f", 1, "the first one")
					barrier(t, s)
					does(t, name, s, api.OK, l...)
					d.Arm(fuse)
					err := s.Put("f", 2, "the second one")
					d.Crash(slices.DeleteFunc([]int{0, 1}, func(i int) bool { return set>>i&1 == 0 }))
					s = opens(t, name, d, c)
					if _, is := index.Block(s.Cache(), "f", 1); is {
						gets(t, name, s, api.OK, "f", 1, padded("the first one"))
					}
					if _, is := index.Block(s.Cache(), "f", 2); is {
						gets(t, name, s, api.OK, "f", 2, padded("the second one"))
						gets(t, name, s, api.ErrNone, "f", 1, "")
					}
					if err == api.OK {
						break
					}
				}
			}
		}
	}
}

// P19.5: with too little space in the journal, a checkpoint is made, once for as many blocks as the journal has positions.
func TestPutSpace(t *testing.T) {
	c := api.Config{Handles: 1, Files: 1, Names: 0, Slots: 5, Ring: 16}
	s, d := withFile(t, c)
	h, gens, room := headerOf(t, d), 0, s.Room()
	for n := range 100 {
		isPut(t, "one more", s, d, c, "f", n%4, strings.Repeat("d", n))
		if now := headerOf(t, d); now != h {
			if room != 0 {
				t.Fatalf("a checkpoint with %d positions free", room)
			}
			want := api.Head{Gen: h.Gen + 1, Epoch: h.Epoch, Since: h.Epoch, Area: 1 - h.Area, Size: now.Size, Next: h.Next + c.Ring, Pos: h.Pos}
			if now != want {
				t.Fatalf("the header is %+v, want %+v", now, want)
			}
			h, room = now, c.Ring
			gens++
		}
		if room--; s.Room() != room || s.Count() != n+2 {
			t.Fatalf("Room %d, Count %d, want %d, %d", s.Room(), s.Count(), room, n+2)
		}
	}
	if gens != 6 {
		t.Errorf("%d checkpoints", gens)
	}
}

// everything is the positions of all writes that wait.
func everything(d *disk.Disk) (keep []int) {
	for i := range d.Waiting() {
		keep = append(keep, i)
	}
	return keep
}

// P19.5: a disk that fails at each write and barrier, with space in the journal or without it, with a free slot or one that waits: ErrDown. What is there then is what was there, or has the block, too.
func TestPutFails(t *testing.T) {
	for _, slots := range []int{1, 2} {
		for _, room := range []int{9, 0} {
			fuse := 0
			for ; ; fuse++ {
				c := api.Config{Handles: 1, Files: 1, Names: 0, Slots: slots, Ring: 16}
				s, d := withFile(t, c)
				isPut(t, "ahead", s, d, c, "f", 1, "old")
				barrier(t, s)
				for s.Room() > room+1 {
					does(t, "to be full", s, api.OK, file("f", s.Room()))
				}
				does(t, "gone", s, api.OK, unblock("f", 1))
				was := s.Cache()
				d.Arm(fuse)
				err := s.Put("f", 2, "new")
				if err == api.OK {
					gets(t, "all was done", s, api.OK, "f", 2, padded("new"))
					break
				}
				if err != api.ErrDown || !d.Dead() {
					t.Fatalf("a fuse of %d: error %d", fuse, err)
				}
				puts(t, "failed", s, api.ErrDown, "f", 3, "")
				d.Crash(everything(d))
				s = opens(t, "behind a crash", d, c)
				if _, is := index.Block(s.Cache(), "f", 2); is {
					gets(t, "behind a crash", s, api.OK, "f", 2, padded("new"))
				} else {
					has(t, "behind a crash", s, was)
				}
			}
			if room == 0 && fuse < 7 || room > 0 && fuse < 3 {
				t.Errorf("with Room %d: failed %d times", room, fuse)
			}
		}
	}
}
