package image_test

import (
	"math/rand"
	"slices"
	"strconv"
	"strings"
	"testing"

	"posthouse/api"
	"posthouse/disk"
	"posthouse/image"
)

// P14.4: a text is written over an elder one, and any set of its sectors is kept by a crash: all of them are the new text, none the elder one; some are no text, or one whose length and checksum are right.
func TestEachCrash(t *testing.T) {
	count := map[string]int{}
	pairs := [][2]string{
		{text("e", 300), text("s", 300)}, {text("e", 300), text("s", 100)}, {text("e", 100), text("s", 300)}, {text("e", 600), text("s", 130)},
		{text("e", 300), text("e", 300)}, {"", text("s", 500)}, {text("e", 500), ""}, {text("a", 500), text("a", 490)}, {text("a", 490), text("a", 500)},
		// They differ in the first sector alone, or there and in the last one.
		{"1" + strings.Repeat("a", 499), "2" + strings.Repeat("a", 499)}, {strings.Repeat("a", 499) + "1", strings.Repeat("a", 499) + "2"},
	}
	for _, pair := range pairs {
		elder, s := pair[0], pair[1]
		need := takes(len(s))
		for set := range 1 << need {
			all := with(junk(9), 2, wire(elder))
			d := newDisk(t, all)
			writes(t, "over an elder one", d, 2, 6, s, api.OK)
			d.Crash(kept(set, d.Waiting()))
			got, err := image.Read(d, 2, 6)
			want, is := stored(d.Image()[2:8])
			switch {
			case is != (err == api.OK) || got != want || !is && err != api.ErrForm:
				t.Fatalf("%d over %d bytes, kept %b: %d bytes, error %d", len(s), len(elder), set, len(got), err)
			case set == 0 && got != elder, set == 1<<need-1 && got != s:
				t.Fatalf("%d over %d bytes, kept %b: %q", len(s), len(elder), set, got)
			case !is:
				count["none"]++
			case got == s:
				count["the new one"]++
			case got == elder:
				count["the elder one"]++
			}
		}
	}
	for _, name := range []string{"none", "the new one", "the elder one"} {
		if count[name] < 20 {
			t.Errorf("%s: %d times", name, count[name])
		}
	}
}

// P14.5: of two areas that have no sector in common, neither is changed by a text in the other, nor by one that does not fit there.
func TestTwoAreas(t *testing.T) {
	for need := 1; need < 4; need++ {
		for gap := range 3 {
			first, second := text("f", need*size-8), text("s", need*size-8)
			n := 2*need + gap
			all := junk(n)
			d := newDisk(t, all)
			writes(t, "the first", d, 0, need, first, api.OK)
			writes(t, "the second", d, need+gap, need, second, api.OK)
			reads(t, "the first", d, 0, need, first, api.OK)
			reads(t, "the second", d, need+gap, need, second, api.OK)
			writes(t, "too long", d, 0, need, first+"more", api.ErrFull)
			writes(t, "again", d, 0, need, "again", api.OK)
			reads(t, "the first", d, 0, need, "again", api.OK)
			reads(t, "the second", d, need+gap, need, second, api.OK)
			d.Barrier()
			left := with(with(with(all, 0, wire(first)), 0, wire("again")), need+gap, wire(second))
			holds(t, "two areas", d, left)
		}
	}
}

// area is an area, and the texts that may be there: the one that is persisted, and the last one that was written.
type area struct {
	from, count    int
	kept, last     string
	unknown, waits bool
}

// life is a disk with areas that have no sector in common, to which anything happens.
type life struct {
	t      *testing.T
	chance *rand.Rand
	disk   *disk.Disk
	areas  []*area
	serial int
	count  map[string]int
}

// write writes a text to one of the areas; it may be too long, and the disk may fail.
func (l *life) write() {
	l.t.Helper()
	l.serial++
	a := l.areas[l.chance.Intn(len(l.areas))]
	s := text(strconv.Itoa(l.serial)+":", l.chance.Intn(a.count*size+40))
	switch err := image.Write(l.disk, a.from, a.count, s); {
	case err == api.ErrFull && takes(len(s)) > a.count:
		l.count["full"]++
	case err == api.ErrDown && l.disk.Dead():
		// Some of its sectors may wait.
		a.unknown, a.waits = true, true
		l.count["down"]++
	case err == api.OK && takes(len(s)) <= a.count:
		a.last, a.unknown, a.waits = s, false, true
		l.count["written"]++
	default:
		l.t.Fatalf("Write of %d bytes in %d sectors: error %d", len(s), a.count, err)
	}
}

// barrier has the disk persist all that waits.
func (l *life) barrier() {
	if l.disk.Barrier() == api.OK {
		for _, a := range l.areas {
			a.kept, a.waits = a.last, false
		}
	}
}

// crash lets the disk crash, with any of its pending writes kept; an area of which none waited is as it was.
func (l *life) crash() {
	l.t.Helper()
	l.disk.Crash(kept(l.chance.Int(), min(62, l.disk.Waiting())))
	for _, a := range l.areas {
		want, is := stored(l.disk.Image()[a.from : a.from+a.count])
		if !a.waits && (!is || want != a.kept) {
			l.t.Fatalf("the area from %d on is changed by writing to others", a.from)
		}
		got, err := image.Read(l.disk, a.from, a.count)
		if got != want || is != (err == api.OK) || !is && err != api.ErrForm {
			l.t.Fatalf("after a crash: %d bytes, error %d, want %d bytes, %v", len(got), err, len(want), is)
		}
		if !is {
			l.count["lost"]++
			// A text that is known again.
			writes(l.t, "anew", l.disk, a.from, a.count, "anew", api.OK)
			got = "anew"
		}
		a.last, a.unknown = got, false
	}
	l.barrier()
	l.count["crashed"]++
}

// step lets one thing happen, and reads all areas whose texts are known.
func (l *life) step() {
	l.t.Helper()
	switch n := l.chance.Intn(12); {
	case n < 6:
		l.write()
	case n < 9:
		l.barrier()
	case n < 10:
		l.disk.Arm(l.chance.Intn(30) - 1)
	case n < 11 || l.disk.Dead():
		l.crash()
	}
	for _, a := range l.areas {
		switch {
		case l.disk.Dead():
			reads(l.t, "down", l.disk, a.from, a.count, "", api.ErrDown)
		case !a.unknown:
			reads(l.t, "a step", l.disk, a.from, a.count, a.last, api.OK)
		}
	}
}

// P14.4, P14.5: many orders of texts in three areas, barriers, fuses and crashes.
func TestManyLives(t *testing.T) {
	count := map[string]int{}
	for n := range 400 {
		chance := rand.New(rand.NewSource(int64(n)))
		l := &life{t: t, chance: chance, count: count}
		at := chance.Intn(2)
		for range 3 {
			a := &area{from: at, count: 1 + chance.Intn(4)}
			l.areas = append(l.areas, a)
			at += a.count + chance.Intn(2)
		}
		d, err := disk.New(at)
		if err != api.OK {
			t.Fatalf("a disk of %d sectors: error %d", at, err)
		}
		l.disk = d
		chance.Shuffle(3, func(i, j int) { l.areas[i], l.areas[j] = l.areas[j], l.areas[i] })
		for range 60 {
			l.step()
		}
	}
	for _, name := range []string{"written", "full", "down", "crashed", "lost"} {
		if count[name] < 400 {
			t.Errorf("%s: %d times", name, count[name])
		}
	}
}

// Rule 3: what Read answers is in new memory, and what is written then does not change it.
func TestOwnMemory(t *testing.T) {
	d := newDisk(t, slices.Repeat([]string{blank}, 4))
	s := text("s", 300)
	writes(t, "a text", d, 0, 4, s, api.OK)
	got, _ := image.Read(d, 0, 4)
	writes(t, "another", d, 0, 4, text("o", 300), api.OK)
	if got != s {
		t.Errorf("what was read is %q", got)
	}
}
