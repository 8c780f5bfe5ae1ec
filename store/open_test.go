package store_test

import (
	"math/rand"
	"strings"
	"testing"

	"posthouse/api"
	"posthouse/disk"
	"posthouse/store"
)

// begin is the header of a store made by hand, in an epoch.
func begin(epoch int) api.Head { return api.Head{Epoch: epoch, Since: epoch, Next: 1} }

// P19.3: the errors that Format has, too, and which of them comes first.
func TestOpenErrors(t *testing.T) {
	good, enough := small(), planOf(small()).all
	bad := wrong()
	for _, c := range append(bad, good) {
		refuses(t, "no disk", nil, c, api.ErrNil)
	}
	for _, c := range bad {
		for _, d := range []*disk.Disk{newDisk(t, 1), newDisk(t, 300), failed(newDisk(t, 1)), formatted(t, good)} {
			untouched(t, "a wrong config", d, func() { refuses(t, "a wrong config", d, c, api.ErrRange) })
		}
	}
	for _, n := range []int{1, 2, 18, enough - 1} {
		for _, d := range []*disk.Disk{newDisk(t, n), failed(newDisk(t, n))} {
			untouched(t, "too small", d, func() { refuses(t, "too small", d, good, api.ErrFull) })
		}
	}
	for _, d := range []*disk.Disk{failed(newDisk(t, enough)), failed(formatted(t, good))} {
		untouched(t, "failed", d, func() { refuses(t, "failed", d, good, api.ErrDown) })
	}
	// One sector less than the store has, though all that is in use would be there.
	image := formatted(t, good).Image()
	d := diskOf(t, image[:enough-1])
	untouched(t, "cut off", d, func() { refuses(t, "cut off", d, good, api.ErrFull) })
}

// P19.3: disks on which there is no store: blank ones, and such as have anything but a header.
func TestOpenNone(t *testing.T) {
	c := small()
	n := planOf(c).all
	chance := rand.New(rand.NewSource(2))
	for round := range 100 {
		d := newDisk(t, n)
		for i := range n {
			b := []byte(blank)
			if round > 0 {
				chance.Read(b)
			}
			d.Write(i, string(b))
		}
		if round%2 == 1 {
			d.Barrier()
		}
		untouched(t, "no store", d, func() { refuses(t, "no store", d, c, api.ErrNone) })
	}
	d := formatted(t, c)
	d.Write(0, "")
	d.Write(1, "")
	untouched(t, "headers gone", d, func() { refuses(t, "headers gone", d, c, api.ErrNone) })
}

// finds tells whether Open finds that cache by that header, and saves the header with the next epoch, and everything else as it was.
func finds(t *testing.T, name string, d *disk.Disk, c api.Config, want api.Cache) *store.Store {
	t.Helper()
	h := headerOf(t, d)
	area, records := areaOf(t, d, c, h), recordsOf(t, d, c, h)
	s := opens(t, name, d, c)
	has(t, name, s, want)
	h.Gen++
	h.Epoch++
	if got := headerOf(t, d); got != h {
		t.Fatalf("%s: the header is %+v, want %+v", name, got, h)
	}
	if s.Epoch() != h.Epoch || s.Count() != 0 {
		t.Fatalf("%s: Epoch %d, Count %d, with the header %+v", name, s.Epoch(), s.Count(), h)
	}
	if got := areaOf(t, d, c, h); got != area {
		t.Fatalf("%s: the area has %q, had %q", name, got, area)
	}
	if got := recordsOf(t, d, c, h); strings.Join(got, "/") != strings.Join(records, "/") {
		t.Fatalf("%s: the journal has %q, had %q", name, got, records)
	}
	used := 0
	for _, record := range records {
		used += max(1, (len(record)+99)/100)
	}
	if s.Room() != c.Ring-used {
		t.Fatalf("%s: Room %d, want %d", name, s.Room(), c.Ring-used)
	}
	// The header is persisted, not only written.
	if got := headerOf(t, diskOf(t, d.Image())); got != h {
		t.Fatalf("%s: persisted is the header %+v, want %+v", name, got, h)
	}
	return s
}

// P19.3: caches of any size in each of the areas, without records behind them: what is there is what was stored, and so when it is opened many times.
func TestOpenArea(t *testing.T) {
	for _, c := range configs() {
		all := fullOf(c)
		caches := []api.Cache{{}, all, {Files: all.Files}, {Helds: all.Helds}, {Helds: all.Helds[:1], Files: all.Files, Blocks: all.Blocks}, {Files: all.Files, Names: all.Names}}
		for _, n := range []int{15, 16, 17, 31, 32, 33, 48} {
			caches = append(caches, api.Cache{Helds: all.Helds[:min(n, c.Handles)]})
		}
		for i, want := range caches {
			h := api.Head{Epoch: 4 + i, Since: 2 + i, Area: i % 2, Next: 1 + 100*i, Pos: i % c.Ring}
			d := wasMade(t, c, h, textOf(t, want))
			for range 3 {
				finds(t, "an area", d, c, want)
			}
		}
	}
}

// P19.3: transactions in the journal, wherever it begins, with whatever number and since whatever epoch, also round its end.
func TestOpenJournal(t *testing.T) {
	c := small()
	first := []api.Change{hold(1, 1, "u"), file("f", 1)}
	was := after(t, api.Cache{}, first...)
	var records []string
	want := was
	for _, l := range [][]api.Change{
		{file("g", 2), named("g", "a", "f"), named("f", "b", "")},
		{file("f", 3)},
		{free(1, 1), hold(3, 1, "u"), hold(3, 2, "v"), hold(2, 9, "w"), file("g", 4), file("h", 5), file("h", 6), unname("f", "b")},
		{block("g", 0, 2)}, {block("g", 7, 0)}, {unblock("g", 0)}, {block("f", 65535, 2)}, {bare("f")}, {gone("h")},
	} {
		records, want = append(records, recordOf(t, l...)), after(t, want, l...)
	}
	for pos := range c.Ring {
		for _, h := range []api.Head{begin(1), {Epoch: 9, Since: 2, Area: 1, Next: 1 << 40}, {Epoch: high - 4, Since: 1, Next: 2}} {
			h.Pos = pos
			d := wasMade(t, c, h, textOf(t, was), records...)
			s := finds(t, "a journal", d, c, want)
			gets(t, "a journal", s, api.OK, "g", 7, d.Image()[planOf(c).slots])
			finds(t, "once more", d, c, want)
		}
	}
}

// P19.3, P12.1: records of the journal that are of several epochs are found; those that do not follow are not: of an epoch ahead of the header's Since, or of the record before, with another number, behind one that is missing.
func TestOpenFollowing(t *testing.T) {
	c := api.Config{Handles: 9, Files: 3, Names: 3, Slots: 3, Ring: 16}
	h := api.Head{Epoch: 5, Since: 3, Next: 7, Pos: 14}
	for _, l := range [][]int{{}, {3}, {5}, {3, 3, 4, 4, 5, 5}, {2}, {1, 5}, {4, 3}, {3, 5, 4, 5}, {5, 2}} {
		d := wasMade(t, c, h, textOf(t, api.Cache{}))
		want, last, follows := api.Cache{}, h.Since, true
		for i, epoch := range l {
			x := hold(i+1, 1, strings.Repeat("u", i+1))
			adds(t, d, c, api.Head{Epoch: epoch, Since: 1, Next: h.Next + i, Pos: (h.Pos + i) % c.Ring}, recordOf(t, x))
			if follows = follows && epoch >= last; follows {
				want, last = after(t, want, x), epoch
			}
		}
		finds(t, "epochs", d, c, want)
	}
	for _, other := range []api.Head{{Epoch: 5, Since: 1, Next: 8, Pos: 14}, {Epoch: 5, Since: 1, Next: 6, Pos: 14}, {Epoch: 5, Since: 1, Next: 7, Pos: 15}, {Epoch: 5, Since: 1, Next: 8, Pos: 15}} {
		d := wasMade(t, c, h, textOf(t, api.Cache{}))
		adds(t, d, c, other, recordOf(t, file("f", 1)))
		finds(t, "another number, or place", d, c, api.Cache{})
	}
}

// isForm tells whether Open answers ErrForm, and writes nothing.
func isForm(t *testing.T, name string, d *disk.Disk, c api.Config) {
	t.Helper()
	untouched(t, name, d, func() { refuses(t, name, d, c, api.ErrForm) })
}

// P19.3: areas that have no text of a cache: other bytes, none, a part of one, more than one, changes that can't be done, records that are none.
func TestOpenOtherText(t *testing.T) {
	c := api.Config{Handles: 9, Files: 8, Names: 7, Slots: 9, Ring: 16}
	for _, h := range []api.Head{begin(1), {Epoch: 9, Since: 2, Area: 1, Next: 5, Pos: 3}} {
		good := textOf(t, after(t, api.Cache{}, hold(1, 1, "u"), file("f", 1), named("f", "a", "g"), block("f", 3, 1)))
		opens(t, "the good one", wasMade(t, c, h, good), c)
		for name, text := range map[string]string{
			"no bytes":                    "",
			"other bytes":                 "anything",
			"a number alone":              listOf("")[:4],
			"three bytes":                 "\x00\x00\x00",
			"more records than there are": "\x00\x00\x00\x02" + good[4:],
			"far more":                    "\xff\xff\xff\xff" + good[4:],
			"less":                        "\x00\x00\x00\x00" + good[4:],
			"one byte less":               good[:len(good)-1],
			"four bytes less":             good[:len(good)-4],
			"one byte more":               good + "\x00",
			"four bytes more":             good + "\x00\x00\x00\x00",
			"another text more":           good + good,
			"a record without bytes":      listOf(recordOf(t, file("f", 1)), ""),
			"another record":              listOf(recordOf(t, file("f", 1)), "\x00\x00\x00\x01\x00\x00\x00\x0a\x00\x00\x00\x01f\x00\x00\x00"),
			"seventeen changes":           listOf("\x00\x00\x00\x11" + strings.Repeat(recordOf(t, file("f", 1))[4:], 17)),
			"a handle twice":              listOf(recordOf(t, hold(1, 1, "u"), hold(1, 1, "v"))),
			"an Up twice":                 listOf(recordOf(t, hold(1, 1, "u")), recordOf(t, hold(1, 2, "u"))),
			"a name of no file":           listOf(recordOf(t, named("f", "a", ""), file("f", 1))),
			"a block of no file":          listOf(recordOf(t, file("f", 1), block("g", 0, 0))),
			"two blocks in a slot":        listOf(recordOf(t, file("f", 1), block("f", 0, 0), block("f", 1, 0))),
			"a file gone that is not":     listOf(recordOf(t, gone("f"))),
		} {
			isForm(t, name, wasMade(t, c, h, text), c)
		}
		for i := range len(good) {
			isForm(t, "cut", wasMade(t, c, h, good[:i]), c)
		}
	}
}

// P19.3: the area that the header names has to be the one with the text; and its bytes have to be those that were stored.
func TestOpenOtherArea(t *testing.T) {
	c := small()
	p := planOf(c)
	was := after(t, api.Cache{}, file("f", 1))
	for area := range 2 {
		h := begin(1)
		h.Area = area
		d := wasMade(t, c, h, textOf(t, was))
		h.Area = 1 - area
		saves(t, d, h)
		isForm(t, "the other area", d, c)
		d = wasMade(t, c, begin(1), textOf(t, was))
		image := d.Image()
		for at := range 8 + len(textOf(t, was)) {
			b := []byte(image[p.areas[0]+at/size])
			b[at%size] ^= 1
			d.Write(p.areas[0]+at/size, string(b))
			isForm(t, "a byte changed", d, c)
			d.Write(p.areas[0]+at/size, image[p.areas[0]+at/size])
		}
		finds(t, "changed back", d, c, was)
	}
}

// P19.3: caches that do not fit in one of the numbers, though they fit in all others; and blocks in the last slot, and behind it.
func TestOpenTooMuch(t *testing.T) {
	c := api.Config{Handles: 9, Files: 8, Names: 7, Slots: 9, Ring: 16}
	all := fullOf(c)
	text := textOf(t, all)
	finds(t, "just fits", wasMade(t, c, begin(1), text), c, all)
	for _, less := range []api.Config{
		{Handles: 8, Files: 9, Names: 8, Slots: 9, Ring: 16}, {Handles: 10, Files: 7, Names: 9, Slots: 10, Ring: 16},
		{Handles: 9, Files: 9, Names: 6, Slots: 12, Ring: 16}, {Handles: 9, Files: 8, Names: 8, Slots: 8, Ring: 16},
	} {
		isForm(t, "too much", wasMade(t, less, begin(1), text), less)
	}
	for slot := range 20 {
		was := after(t, api.Cache{}, file("f", 1), block("f", 7, slot))
		d := wasMade(t, c, begin(1), textOf(t, was))
		if slot < c.Slots {
			s := finds(t, "a slot", d, c, was)
			d.Write(planOf(c).slots+slot, "data")
			gets(t, "a slot", s, api.OK, "f", 7, padded("data"))
		} else {
			isForm(t, "no slot", d, c)
		}
	}
	isForm(t, "no slot", wasMade(t, c, begin(1), textOf(t, after(t, api.Cache{}, file("f", 1), block("f", 7, 65535)))), c)
}

// P19.3: records of the journal that are no transaction, or one that can't be done, as the first, a middle and the last one.
func TestOpenOtherRecords(t *testing.T) {
	c := small()
	was := after(t, api.Cache{}, hold(1, 1, "u"), file("f", 1), file("g", 1))
	good := []string{recordOf(t, file("h", 2)), recordOf(t, hold(2, 1, "v")), recordOf(t, named("g", "a", "u")), recordOf(t, block("g", 0, 0))}
	finds(t, "the good ones", wasMade(t, c, begin(1), textOf(t, was), good...), c, after(t, was, file("h", 2), hold(2, 1, "v"), named("g", "a", "u"), block("g", 0, 0)))
	for name, bad := range map[string]string{
		"no bytes":              "",
		"other bytes":           "anything",
		"a cut record":          recordOf(t, file("f", 3))[:8],
		"a record and more":     recordOf(t, file("f", 3)) + "\x00\x00\x00\x00",
		"a change of no kind":   "\x00\x00\x00\x01\x00\x00\x00\x0a\x00\x00\x00\x01f\x00\x00\x00",
		"a handle twice":        recordOf(t, hold(1, 1, "x")),
		"an Up twice":           recordOf(t, hold(1, 2, "u")),
		"no such handle":        recordOf(t, free(1, 2)),
		"no such file":          recordOf(t, gone("x")),
		"no file to be bared":   recordOf(t, bare("x")),
		"a name of no file":     recordOf(t, named("x", "a", "")),
		"no such name":          recordOf(t, unname("f", "a")),
		"no such block":         recordOf(t, unblock("f", 0)),
		"a block of no file":    recordOf(t, block("x", 1, 1)),
		"refused at the end":    recordOf(t, file("f", 3), unname("f", "a")),
		"refused in the middle": recordOf(t, file("f", 3), gone("x"), file("f", 4)),
		"too many files":        recordOf(t, file("i", 1), file("j", 1)),
		"too many handles":      recordOf(t, hold(3, 1, "x"), hold(3, 2, "y"), hold(3, 3, "z")),
		"too many names":        recordOf(t, named("f", "a", ""), named("f", "b", ""), named("f", "c", ""), named("f", "d", "")),
	} {
		for at := range len(good) + 1 {
			records := append(append(append([]string(nil), good[:at]...), bad), good[at:]...)
			isForm(t, name, wasMade(t, c, begin(1), textOf(t, was), records...), c)
		}
	}
}

// P19.3: a disk that fails at the write of the header, and at the barrier behind it.
func TestOpenFails(t *testing.T) {
	c := small()
	want := after(t, api.Cache{}, file("f", 1), file("g", 2))
	made := wasMade(t, c, begin(4), textOf(t, after(t, api.Cache{}, file("f", 1))), recordOf(t, file("g", 2)))
	fuse := 0
	for ; ; fuse++ {
		d := diskOf(t, made.Image())
		d.Arm(fuse)
		s, err := store.Open(d, c)
		if err == api.OK {
			has(t, "all was done", s, want)
			break
		}
		if s != nil || err != api.ErrDown || !d.Dead() {
			t.Fatalf("a fuse of %d: store %v, error %d", fuse, s != nil, err)
		}
		d.Crash(nil)
		finds(t, "after a failure", d, c, want)
	}
	if fuse < 2 {
		t.Errorf("%d writes and barriers were enough", fuse)
	}
}

// P19.3, P19.9: a store that is opened while writes wait has all transactions; and each one that is opened has a greater epoch.
func TestOpenTwice(t *testing.T) {
	c := small()
	s, d := started(t, c)
	want, epoch := api.Cache{}, s.Epoch()
	for n := range 40 {
		l := []api.Change{file("f", n), file("g", n)}
		does(t, "pending", s, api.OK, l...)
		want = after(t, want, l...)
		if d.Waiting() == 0 {
			t.Fatal("nothing waits")
		}
		s = opens(t, "again", d, c)
		has(t, "again", s, want)
		if s.Epoch() != epoch+1+n || s.Count() != 0 {
			t.Fatalf("Epoch %d, Count %d", s.Epoch(), s.Count())
		}
		if n%10 == 9 && s.Checkpoint() != api.OK {
			t.Fatal("no checkpoint")
		}
	}
}
