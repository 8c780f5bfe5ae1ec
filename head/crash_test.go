package head_test

import (
	"math/rand"
	"testing"

	"posthouse/api"
	"posthouse/disk"
	"posthouse/head"
)

// kept is which of the pending writes are in a set of bits.
func kept(set, waiting int) (keep []int) {
	for i := range waiting {
		if set&(1<<i) != 0 {
			keep = append(keep, i)
		}
	}
	return keep
}

// P13.5: each pair of what two sectors may have, each fuse, each set of pending writes that is kept: what is found is what was found before, or what was to be saved.
func TestEachCrash(t *testing.T) {
	all := contents(t)
	count := map[string]int{}
	for first, one := range all {
		for second, two := range all {
			before, why := want(one, two)
			if before.Gen > 1000 {
				continue
			}
			h := ordinary(0)
			h.Next, h.Gen = 1000, before.Gen+1
			for fuse := -1; fuse < 4; fuse++ {
				for set := range 8 {
					d := newDisk(t, "other", first, second, "others")
					d.Write(0, "pending")
					d.Write(3, "pending")
					d.Arm(fuse)
					_, err := head.Save(d, 1, h)
					d.Crash(kept(set, d.Waiting()))
					got, e := head.Find(d, 1)
					switch {
					case got == h && e == api.OK:
						count["the new one"]++
					case got == before && e == why && err != api.OK:
						count["that of before"]++
					default:
						t.Fatalf("a fuse of %d, kept %b: Save answers error %d, Find %+v, error %d; before %+v, error %d", fuse, set, err, got, e, before, why)
					}
				}
			}
		}
	}
	if count["the new one"] < 1000 || count["that of before"] < 1000 {
		t.Errorf("found: %v", count)
	}
}

// life is a disk on which headers are saved for ever, the one that is found there, and why none is.
type life struct {
	t      *testing.T
	chance *rand.Rand
	disk   *disk.Disk
	at     int
	head   api.Head
	err    api.Errno
	count  map[string]int
}

// step saves a header, with a fuse or without one; when the disk has failed, or by chance, it crashes.
func (l *life) step() {
	l.t.Helper()
	h := anyHead(l.chance)
	l.disk.Arm(l.chance.Intn(6) - 1)
	next := h
	next.Gen = l.head.Gen + 1
	saved, err := head.Save(l.disk, l.at, h)
	switch {
	case err == api.OK && saved == next:
		l.head, l.err = next, api.OK
		l.count["saved"]++
	case err != api.ErrDown || !l.disk.Dead() || saved != api.Head{}:
		l.t.Fatalf("Save of %+v: %+v, error %d", h, saved, err)
	}
	if l.disk.Dead() || l.chance.Intn(4) == 0 {
		l.disk.Crash(kept(l.chance.Intn(2), l.disk.Waiting()))
		l.count["crashed"]++
	}
	switch got, e := head.Find(l.disk, l.at); {
	case got == l.head && e == l.err:
		l.count["as before"]++
	case got == next && e == api.OK && err != api.OK:
		l.head, l.err = next, api.OK
		l.count["kept"]++
	default:
		l.t.Fatalf("Find = %+v, error %d, want %+v, error %d, or %+v", got, e, l.head, l.err, next)
	}
}

// P13.3, P13.5: many headers, one after the other, on a disk that fails and crashes.
func TestManySaves(t *testing.T) {
	count := map[string]int{}
	for n := range 300 {
		d, err := disk.New(5)
		if err != api.OK {
			t.Fatalf("a disk: error %d", err)
		}
		l := &life{t, rand.New(rand.NewSource(int64(n))), d, n % 4, api.Head{}, api.ErrNone, count}
		for range 60 {
			l.step()
		}
	}
	for _, name := range []string{"saved", "crashed", "as before", "kept"} {
		if count[name] < 500 {
			t.Errorf("%s: %d times", name, count[name])
		}
	}
}
