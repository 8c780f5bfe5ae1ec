package store_test

import (
	"math/rand"
	"strings"
	"testing"

	"posthouse/api"
	"posthouse/disk"
	"posthouse/head"
	"posthouse/store"
)

// failed lets a disk fail.
func failed(d *disk.Disk) *disk.Disk {
	d.Arm(0)
	d.Barrier()
	return d
}

// untouched tells whether a call leaves a disk as it was.
func untouched(t *testing.T, name string, d *disk.Disk, call func()) {
	t.Helper()
	keeps(t, name, nil, d, call)
}

// P19.2: the errors, and which of them comes first; nothing is written with any of them.
func TestFormatErrors(t *testing.T) {
	good, enough := small(), planOf(small()).all
	bad := wrong()
	for _, c := range append(bad, good) {
		formats(t, nil, c, api.ErrNil)
	}
	for _, c := range bad {
		for _, d := range []*disk.Disk{newDisk(t, 1), newDisk(t, 300), failed(newDisk(t, 1))} {
			untouched(t, "a wrong config", d, func() { formats(t, d, c, api.ErrRange) })
		}
	}
	for _, n := range []int{1, 2, 18, enough - 2, enough - 1} {
		for _, d := range []*disk.Disk{newDisk(t, n), failed(newDisk(t, n))} {
			untouched(t, "too small", d, func() { formats(t, d, good, api.ErrFull) })
		}
	}
	for _, n := range []int{enough, enough + 1, 300} {
		d := failed(newDisk(t, n))
		untouched(t, "failed", d, func() { formats(t, d, good, api.ErrDown) })
	}
}

// isNew tells whether just a new store is on a disk, also after a crash that keeps nothing; it returns its epoch.
func isNew(t *testing.T, name string, d *disk.Disk, c api.Config) int {
	t.Helper()
	if d.Dead() {
		t.Fatalf("%s: the disk has failed", name)
	}
	d.Crash(nil)
	h := headerOf(t, d)
	if h.Since != h.Epoch {
		t.Fatalf("%s: the header is %+v", name, h)
	}
	if text := areaOf(t, d, c, h); len(changesOf(t, text)) != 0 || len(text) != h.Size {
		t.Fatalf("%s: the area of %+v has %q", name, h, text)
	}
	for i, s := range d.Image()[journalAt : journalAt+c.Ring] {
		if s != blank {
			t.Fatalf("%s: the position %d of the journal has %q", name, i, s)
		}
	}
	s := opens(t, name, diskOf(t, d.Image()), c)
	has(t, name, s, api.Cache{})
	if s.Epoch() != h.Epoch+1 || s.Count() != 0 || s.Room() != c.Ring {
		t.Fatalf("%s: Epoch %d, Count %d, Room %d of a store with %+v", name, s.Epoch(), s.Count(), s.Room(), h)
	}
	return h.Epoch
}

// P19.2: a new store on disks with just enough sectors, and with more; what is behind them stays as it was.
func TestFormat(t *testing.T) {
	for _, c := range configs() {
		for _, more := range []int{0, 1, 100} {
			n := planOf(c).all
			d := newDisk(t, n+more)
			for i := range more {
				d.Write(n+i, "other")
			}
			formats(t, d, c, api.OK)
			if isNew(t, "new", d, c) < 1 {
				t.Errorf("the first epoch is below 1")
			}
			for i, s := range d.Image()[n:] {
				if s != padded("other") {
					t.Errorf("the sector %d behind the store has %q", i, s)
				}
			}
		}
	}
}

// busy does several things in a store, so that there are checkpoints, records in the journal, blocks in slots, and writes that wait.
func busy(t *testing.T, s *store.Store, n int) {
	t.Helper()
	does(t, "busy", s, api.OK, file("f", n), file("g", n), hold(n, 1, wide(n, 3)))
	puts(t, "busy", s, api.OK, "f", n, "data")
	for range n % 3 {
		does(t, "busy", s, api.OK, named("f", "a", "g"))
		if err := s.Checkpoint(); err != api.OK {
			t.Fatalf("Checkpoint: error %d", err)
		}
	}
	does(t, "busy", s, api.OK, named("f", "b", ""))
}

// P19.2, P19.9: where stores were before, once and many times, opened or not, of this config or of another one, the new one is empty, and has a greater epoch than each of them.
func TestFormatAgain(t *testing.T) {
	d := newDisk(t, 100)
	last := 0
	for n := range 60 {
		c := api.Config{Handles: 3, Files: 2, Names: 2, Slots: 3 + n%2, Ring: 16 + n%7/3}
		formats(t, d, c, api.OK)
		epoch := isNew(t, "again", d, c)
		if epoch <= last {
			t.Fatalf("after the epoch %d there is a new store with %d", last, epoch)
		}
		last = epoch
		for range n % 4 {
			s := opens(t, "again", d, c)
			if s.Epoch() <= last {
				t.Fatalf("after the epoch %d there is %d", last, s.Epoch())
			}
			last = s.Epoch()
			busy(t, s, last)
			if n%3 == 0 {
				d.Crash([]int{0, 2})
			}
		}
	}
}

// P19.2: a disk whose sectors have anything.
func TestFormatAnything(t *testing.T) {
	c := small()
	n := planOf(c).all
	chance := rand.New(rand.NewSource(1))
	for round := range 200 {
		image := make([]string, n)
		for i := range image {
			b := []byte(blank)
			switch round % 4 {
			case 0:
				chance.Read(b)
			case 1:
				b = []byte(strings.Repeat("\xff", size))
			case 2:
				b[chance.Intn(size)] = 1
			case 3:
				h := api.Head{Gen: 1 + chance.Intn(9), Epoch: 9, Since: 1 + chance.Intn(9), Area: chance.Intn(2), Next: 1 + chance.Intn(9), Pos: chance.Intn(99)}
				s, _ := head.Put(h)
				b = []byte(s)
			}
			image[i] = string(b)
		}
		d := diskOf(t, image)
		// What waits is part of what the sectors have, too.
		d.Write(journalAt+chance.Intn(c.Ring), "waiting")
		formats(t, d, c, api.OK)
		if epoch := isNew(t, "anything", d, c); round%4 == 3 && epoch <= 9 {
			t.Errorf("after the epoch 9 there is %d", epoch)
		}
	}
}

// P19.2: a disk that fails at each of the writes and barriers; with all of them done, the store is there.
func TestFormatFails(t *testing.T) {
	c := small()
	used := formatted(t, c)
	busy(t, opens(t, "used", used, c), 2)
	for _, image := range [][]string{newDisk(t, planOf(c).all).Image(), used.Image()} {
		fuse := 0
		for ; ; fuse++ {
			d := diskOf(t, image)
			d.Arm(fuse)
			err := store.Format(d, c)
			if err == api.OK {
				isNew(t, "all was done", d, c)
				break
			}
			if err != api.ErrDown || !d.Dead() {
				t.Fatalf("a fuse of %d: error %d", fuse, err)
			}
			d.Crash(nil)
			formats(t, d, c, api.OK)
			isNew(t, "after a failure", d, c)
		}
		if fuse < 3 {
			t.Errorf("%d writes and barriers were enough", fuse)
		}
	}
}
