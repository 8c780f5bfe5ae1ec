package store_test

import (
	"slices"
	"strconv"
	"strings"
	"testing"

	"posthouse/api"
	"posthouse/disk"
	"posthouse/rec"
	"posthouse/store"
)

// P19.4: a call without changes does nothing.
func TestDoNothing(t *testing.T) {
	s, d := started(t, small())
	does(t, "a file", s, api.OK, file("f", 1))
	for _, l := range [][]api.Change{nil, {}, make([]api.Change, 0, 9)} {
		keeps(t, "no changes", s, d, func() { does(t, "no changes", s, api.OK, l...) })
	}
	if s.Count() != 1 {
		t.Errorf("Count is %d", s.Count())
	}
}

// isDone tells whether changes are done as one transaction: the cache, one record at the end of the journal, just so many writes that wait, and nothing that is persisted.
func isDone(t *testing.T, name string, s *store.Store, d *disk.Disk, c api.Config, l ...api.Change) {
	t.Helper()
	was, kept := viewOf(s, d), d.Image()
	records := recordsOf(t, d, c, headerOf(t, d))
	given := slices.Clone(l)
	does(t, name, s, api.OK, l...)
	if !slices.Equal(l, given) {
		t.Fatalf("%s: what was given has become %+v, it was %+v", name, l, given)
	}
	has(t, name, s, after(t, was.cache, l...))
	parts := pieces(t, l...)
	if s.Count() != was.count+1 || s.Epoch() != was.epoch || s.Room() != was.room-parts {
		t.Fatalf("%s: Count %d, Epoch %d, Room %d behind %d, %d, %d", name, s.Count(), s.Epoch(), s.Room(), was.count, was.epoch, was.room)
	}
	if got := recordsOf(t, d, c, headerOf(t, d)); !slices.Equal(got, append(records, recordOf(t, l...))) {
		t.Fatalf("%s: the journal has %q, had %q", name, got, records)
	}
	if d.Waiting() != was.waits+parts || !slices.Equal(d.Image(), kept) {
		t.Fatalf("%s: %d writes wait, there were %d; persisted was something: %v", name, d.Waiting(), was.waits, !slices.Equal(d.Image(), kept))
	}
}

// P19.4: one change of each kind, and all of them together in as many as there may be; one, two, seven and eight changes.
func TestDo(t *testing.T) {
	c := api.Config{Handles: 9, Files: 9, Names: 9, Slots: 9, Ring: 99}
	s, d := started(t, c)
	isDone(t, "ChHold", s, d, c, hold(1, 1, "u"))
	isDone(t, "ChFile", s, d, c, file("f", 1))
	isDone(t, "ChFile again", s, d, c, file("f", 2))
	isDone(t, "ChName", s, d, c, named("f", "a", "g"))
	isDone(t, "ChName, of nothing", s, d, c, named("f", "a", ""))
	isDone(t, "ChUnname", s, d, c, unname("f", "a"))
	isDone(t, "ChFree", s, d, c, free(1, 1))
	s.Put("f", 7, "data")
	isDone(t, "ChUnblock", s, d, c, unblock("f", 7))
	s.Put("f", 8, "data")
	isDone(t, "with a name", s, d, c, named("f", "a", "g"))
	isDone(t, "ChBare", s, d, c, bare("f"))
	s.Put("f", 9, "data")
	isDone(t, "ChGone", s, d, c, gone("f"))
	isDone(t, "two", s, d, c, file("f", 3), file("g", 4))
	isDone(t, "seven", s, d, c, hold(1, 1, "u"), hold(1, 2, "v"), free(1, 1), hold(2, 1, "u"), file("f", 9), file("f", 8), gone("g"))
	s.Put("f", 1, "data")
	isDone(t, "eight", s, d, c, unblock("f", 1), named("f", "a", ""), named("f", "b", "f"), unname("f", "a"), bare("f"), named("f", "c", "g"), file("g", 1), gone("f"))
	isDone(t, "eight that are alike", s, d, c, slices.Repeat([]api.Change{file("h", 1)}, 8)...)
	if s.Barrier() != api.OK {
		t.Fatal("no barrier")
	}
	d.Crash(nil)
	want := s.Cache()
	has(t, "behind a crash", opens(t, "behind a crash", d, c), want)
}

// isArg tells whether changes are answered with ErrArg, and nothing happens, on a disk that works and on one that has failed.
func isArg(t *testing.T, name string, c api.Config, ahead []api.Change, l ...api.Change) {
	t.Helper()
	s, d := started(t, c)
	for n := range slices.Chunk(ahead, 8) {
		does(t, name, s, api.OK, n...)
	}
	keeps(t, name, s, d, func() { does(t, name, s, api.ErrArg, l...) })
	failed(d)
	keeps(t, name+", failed", s, d, func() { does(t, name+", failed", s, api.ErrArg, l...) })
}

// P19.4: more than eight changes, which could each be done.
func TestDoTooMany(t *testing.T) {
	c := small()
	for _, n := range []int{9, 10, 16, 17, 100, 1 << 16} {
		isArg(t, "too many", c, nil, slices.Repeat([]api.Change{file("f", 1)}, n)...)
	}
	isArg(t, "nine", c, nil, hold(1, 1, "u"), free(1, 1), file("f", 1), named("f", "a", ""), unname("f", "a"), bare("f"), gone("f"), file("g", 1), gone("g"))
}

// P19.4: texts that are just as long as they may be, and one byte longer.
func TestDoLongTexts(t *testing.T) {
	c := api.Config{Handles: 9, Files: 9, Names: 9, Slots: 9, Ring: 99}
	s, d := started(t, c)
	up, more, name := wide(1, api.FhSize), wide(1, api.FhSize+1), wide(1, api.MaxName)
	isDone(t, "long", s, d, c, hold(1, 1, up), file(up, 1), named(up, name, up), unname(up, name), bare(up), gone(up))
	puts(t, "long", s, api.ErrNone, up, 1, "data")
	isDone(t, "long", s, d, c, file(up, 1))
	puts(t, "long", s, api.OK, up, 1, "data")
	isDone(t, "long", s, d, c, unblock(up, 1))
	ahead := []api.Change{file("f", 1), named("f", "a", "g")}
	for _, l := range []int{api.FhSize + 1, api.FhSize + 2, api.MaxFh, api.MaxFh + 1, 1000} {
		more = wide(1, l)
		for _, x := range []api.Change{hold(1, 1, more), file(more, 1), gone(more), bare(more), named(more, "a", ""), named("f", "a", more), unname(more, "a"), unblock(more, 1)} {
			isArg(t, "too long", c, ahead, x)
			isArg(t, "too long behind a file", c, ahead, file("g", 1), x)
		}
		// The file is there at that time, if one can be stored.
		isArg(t, "too long a file", c, ahead, file(more, 1), gone(more))
	}
	for _, l := range []int{api.MaxName + 1, api.MaxName + 2, 255, 256, 1000} {
		isArg(t, "too long a name", c, ahead, named("f", wide(1, l), ""))
		isArg(t, "too long a name", c, ahead, named("f", wide(1, l), ""), unname("f", wide(1, l)))
	}
}

// unstorable are changes that can't be stored for another reason than their texts: those that are not valid, and ChBlock.
func unstorable() (l []api.Change) {
	a := attrOf(1)
	a.Type = 0
	l = append(l, api.Change{}, api.Change{Kind: 10, Up: "f"}, api.Change{Kind: -1}, block("f", 0, 0), block("f", 0, 2), block("f", 7, 9), block("f", 65535, 65535))
	l = append(l, hold(0, 1, "u"), hold(high+1, 1, "u"), hold(1, 0, "u"), hold(1, 1, ""), free(0, 9), free(-1, 9), file("", 1), gone(""), bare(""), named("", "a", ""), named("f", "", ""), unname("f", ""), unblock("", 0), unblock("f", -1), unblock("f", 65536))
	l = append(l, api.Change{Kind: api.ChFile, Up: "f", Attr: a}, api.Change{Kind: api.ChFile, Up: "f"}, api.Change{Kind: api.ChGone, Up: "f", No: 1}, api.Change{Kind: api.ChFile, Up: "f", Attr: attrOf(1), Name: "a"})
	return l
}

// P19.4: changes that can't be stored, and such as are refused, as the first, a middle and the last one of several.
func TestDoRefused(t *testing.T) {
	c := small()
	ahead := []api.Change{hold(7, 7, "w"), file("f", 1), named("f", "a", "g"), file("x", 1)}
	refused := []api.Change{
		hold(7, 7, "v"), hold(7, 8, "w"), free(7, 8), free(8, 7), gone("g"), bare("g"), named("g", "a", ""), unname("f", "b"), unname("x", "a"), unblock("f", 0), unblock("x", 65535),
	}
	good := []api.Change{file("f", 2), file("f", 3), named("f", "z", "f"), named("f", "z", "")}
	for _, x := range append(refused, unstorable()...) {
		for at := range len(good) + 1 {
			isArg(t, "refused", c, ahead, slices.Insert(slices.Clone(good), at, x)...)
		}
		isArg(t, "refused alone", c, ahead, x)
		isArg(t, "refused, in a store with nothing", c, nil, file("f", 1), x, x)
	}
}

// P19.4: what is refused only because of the changes ahead of it, and what is done only because of them.
func TestDoInOrder(t *testing.T) {
	c := small()
	isArg(t, "twice", c, nil, hold(1, 1, "u"), hold(1, 2, "u"))
	isArg(t, "gone", c, nil, file("f", 1), gone("f"), named("f", "a", ""))
	isArg(t, "a name ahead of the file", c, nil, named("f", "a", ""), file("f", 1))
	s, d := started(t, c)
	isDone(t, "a file ahead of its name", s, d, c, file("f", 1), named("f", "a", ""))
	isDone(t, "another handle", s, d, c, hold(1, 1, "u"), free(1, 1), hold(1, 1, "v"))
}

// P19.4: a cache that just fits, in each of the numbers, and one that does not; one that fits behind all changes, though not behind some of them.
func TestDoFull(t *testing.T) {
	c := api.Config{Handles: 4, Files: 3, Names: 5, Slots: 1, Ring: 50}
	s, d := started(t, c)
	for i := range c.Handles {
		isDone(t, "a handle", s, d, c, hold(1, i+1, strconv.Itoa(i)))
	}
	full := func(l ...api.Change) {
		t.Helper()
		keeps(t, "full", s, d, func() { does(t, "full", s, api.ErrArg, l...) })
	}
	full(hold(1, 9, "u"))
	full(free(1, 1), hold(1, 9, "u"), hold(1, 10, "v"))
	isDone(t, "one for another", s, d, c, free(1, 1), hold(1, 9, "u"))
	isDone(t, "one for another, which goes last", s, d, c, hold(1, 10, "v"), free(1, 2))
	for i := range c.Files {
		isDone(t, "a file", s, d, c, file(strconv.Itoa(i), i))
	}
	full(file("f", 1))
	full(file("0", 1), file("f", 1))
	isDone(t, "a file that is there", s, d, c, file("0", 9))
	isDone(t, "one for another", s, d, c, gone("0"), file("f", 1))
	isDone(t, "one for another, which goes last", s, d, c, file("g", 1), gone("1"))
	for i := range c.Names {
		isDone(t, "a name", s, d, c, named("f", strconv.Itoa(i), ""))
	}
	full(named("f", "a", ""))
	full(named("g", "0", ""))
	isDone(t, "a name that is there", s, d, c, named("f", "0", "g"))
	isDone(t, "one for another", s, d, c, unname("f", "0"), named("g", "0", ""))
	isDone(t, "one for another, which goes last", s, d, c, named("g", "1", ""), unname("f", "1"))
	isDone(t, "all names gone", s, d, c, bare("f"), gone("g"))
	isDone(t, "names again", s, d, c, named("f", "0", ""), named("f", "1", ""), named("f", "2", ""), named("f", "3", ""), named("f", "4", ""))
	full(named("f", "5", ""))
}

// P19.4: stores that have no room for a name, and for one thing of each kind.
func TestDoLeast(t *testing.T) {
	c := api.Config{Handles: 1, Files: 1, Names: 0, Slots: 1, Ring: 16}
	isArg(t, "a name", c, []api.Change{file("f", 1)}, named("f", "a", ""))
	isArg(t, "two handles", c, nil, hold(1, 1, "u"), hold(1, 2, "v"))
	isArg(t, "two files", c, nil, file("f", 1), file("g", 1))
	s, d := started(t, c)
	isDone(t, "a name that goes at once", s, d, c, file("f", 1), named("f", "a", ""), unname("f", "a"))
}

// long is eight changes that have together about so many bytes, as one record.
func long(n, parts int) (l []api.Change) {
	for i := range 8 {
		if i < parts {
			l = append(l, file("abc"[i%3:i%3+1], n+i))
		}
	}
	return l
}

// checkpointed tells what a checkpoint has made of a header: what it was, how many transactions and positions the journal went on, and that the text of the cache is there.
func checkpointed(t *testing.T, name string, d *disk.Disk, c api.Config, was api.Head, records, positions int, cache api.Cache) {
	t.Helper()
	got := headerOf(t, d)
	text := areaOf(t, d, c, got)
	want := api.Head{Gen: was.Gen + 1, Epoch: was.Epoch, Since: was.Epoch, Area: 1 - was.Area, Size: len(text), Next: was.Next + records, Pos: (was.Pos + positions) % c.Ring}
	if got != want {
		t.Fatalf("%s: the header is %+v, want %+v", name, got, want)
	}
	if text := areaOf(t, diskOf(t, d.Image()), c, got); !slices.Equal(changesOf(t, text), rec.Changes(cache)) {
		t.Fatalf("%s: the area has %q, which is not the text of %+v", name, text, cache)
	}
}

// P19.4: records of any length fill the journal to its last position; ahead of the one for which there is too little space, and of no other, a checkpoint is made; many times over.
func TestDoSpace(t *testing.T) {
	for _, ring := range []int{16, 17, 23} {
		for parts := 1; parts <= 8; parts++ {
			c := api.Config{Handles: 3, Files: 3, Names: 3, Slots: 3, Ring: ring}
			s, d := started(t, c)
			h := headerOf(t, d)
			records, positions, checkpoints := 0, 0, 0
			for n := range 60 {
				l := long(n, parts)
				was, takes := s.Cache(), pieces(t, l...)
				if s.Room() != ring-positions {
					t.Fatalf("Room is %d behind %d positions of %d", s.Room(), positions, ring)
				}
				does(t, "one more", s, api.OK, l...)
				if positions+takes > ring {
					checkpointed(t, "too little space", d, c, h, records, positions, was)
					h, records, positions = headerOf(t, d), 0, 0
					checkpoints++
				}
				records, positions = records+1, positions+takes
				if headerOf(t, d) != h || len(recordsOf(t, d, c, h)) != records || s.Count() != n+1 || s.Room() != ring-positions {
					t.Fatalf("behind %d records in %d positions: Count %d, Room %d, the header %+v, was %+v", records, positions, s.Count(), s.Room(), headerOf(t, d), h)
				}
				has(t, "one more", s, after(t, was, l...))
				if d.Waiting() == 0 {
					t.Fatal("nothing waits")
				}
				if n%9 == 5 {
					has(t, "found", opens(t, "found", diskOf(t, sectorsOf(d)), c), s.Cache())
				}
			}
			if checkpoints < 2 {
				t.Errorf("%d checkpoints", checkpoints)
			}
		}
	}
}

// sectorsOf is what the sectors of a disk have, waiting or not.
func sectorsOf(d *disk.Disk) (l []string) {
	for i := range d.Size() {
		s, _ := d.Read(i)
		l = append(l, s)
	}
	return l
}

// P19.4: the longest transaction that there can be, in the shortest journal; the caches of several checkpoints are as great as they may be.
func TestDoLongest(t *testing.T) {
	c := api.Config{Handles: 8, Files: 8, Names: 8, Slots: 1, Ring: 16}
	s, d := started(t, c)
	all := fullOf(c)
	for n := range 30 {
		var files, names, holds, frees []api.Change
		for i := range 8 {
			files = append(files, api.Change{Kind: api.ChFile, Up: all.Files[i].Up, Attr: api.Attr{Type: 7, Mode: 4095, Nlink: high, Uid: high, Gid: high, Size: n, Id: high, Gen: n, Change: n, Time: n}})
			names = append(names, named(all.Files[0].Up, all.Names[i].Name, wide(n, api.FhSize)))
			holds = append(holds, hold(high-n, 1<<60+i, wide(n+i, api.FhSize)))
			frees = append(frees, free(high-n, 1<<60+i))
		}
		for _, l := range [][]api.Change{files, names, holds} {
			does(t, "long", s, api.OK, l...)
		}
		want := s.Cache()
		has(t, "found", opens(t, "found", diskOf(t, sectorsOf(d)), c), want)
		does(t, "long", s, api.OK, frees...)
	}
}

// P19.4: a disk that has failed, with space in the journal and without it; and one that fails at each write of a transaction and of a checkpoint ahead of it. What is there then is what was there, or what was to be.
func TestDoFails(t *testing.T) {
	c := small()
	for _, room := range []int{16, 7, 6, 0} {
		fuse, downs := 0, 0
		for ; ; fuse++ {
			s, d := started(t, c)
			for s.Room() > room {
				does(t, "to be full", s, api.OK, file("a", s.Room()))
			}
			if s.Barrier() != api.OK {
				t.Fatal("no barrier")
			}
			was, l := s.Cache(), long(1, 8)
			d.Arm(fuse)
			err := s.Do(l)
			if err == api.OK {
				has(t, "all was done", s, after(t, was, l...))
				break
			}
			if downs++; err != api.ErrDown || !d.Dead() {
				t.Fatalf("a fuse of %d: error %d", fuse, err)
			}
			does(t, "failed", s, api.ErrDown, l...)
			does(t, "failed", s, api.ErrDown, file("a", 1))
			d.Crash(nil)
			has(t, "behind a crash", opens(t, "behind a crash", d, c), was)
		}
		if parts := pieces(t, long(1, 8)...); room >= parts && downs != parts || room < parts && downs < parts+4 {
			t.Errorf("with Room %d, of %d pieces: failed %d times", room, parts, downs)
		}
	}
}

// P19.4: what is given may be changed by the caller behind the call.
func TestDoKeepsNothing(t *testing.T) {
	s, _ := started(t, small())
	l := []api.Change{file("f", 1), named("f", "a", "g")}
	does(t, "two", s, api.OK, l...)
	want := s.Cache()
	l[0], l[1] = gone("x"), gone("y")
	has(t, "behind the call", s, want)
	if strings.Join([]string{want.Files[0].Up, want.Names[0].Name}, "") != "fa" {
		t.Errorf("the cache is %+v", want)
	}
}
