package ring_test

import (
	"math"
	"strconv"
	"testing"

	"posthouse/api"
	"posthouse/ring"
)

// P12.2, P12.3: the document's example.
func TestExample(t *testing.T) {
	d := newDisk(t, 4)
	p := place{0, 4, 0, 1, 1, 1}
	r := p.finds(t, "new", d)
	appends(t, "two pieces", r, text("a", 200), api.OK)
	shows(t, "two pieces", r, 2, 2, 2)
	if r.Fits(300) || r.Fits(201) || !r.Fits(200) {
		t.Error("what fits into two positions")
	}
	keeps(t, "three pieces", r, text("b", 300), api.ErrFull)
	r.Clear()
	shows(t, "after Clear", r, 2, 2, 4)
	if !r.Fits(300) {
		t.Error("three pieces do not fit into four positions")
	}
	appends(t, "three pieces", r, text("b", 300), api.OK)
	shows(t, "three pieces", r, 3, 1, 1)
	place{0, 4, 2, 2, 1, 2}.finds(t, "where it began since Clear", d, text("b", 300))
	place{0, 4, 0, 1, 1, 2}.finds(t, "where it began first", d)
}

// P12.3: after Clear the next record's number and position stay, the space is free, the old records are no longer the journal's, and it begins since its own epoch; nothing is written.
func TestClear(t *testing.T) {
	for count := 1; count <= 8; count++ {
		for pos := range count {
			for used := range count + 1 {
				d, p := newDisk(t, count), place{0, count, pos, 5, 2, 7}
				var records []string
				for n := range used {
					records = append(records, "old"+strconv.Itoa(n))
				}
				p.layAll(t, d, 2, records...)
				r := p.finds(t, "laid", d, records...)
				writes, barriers := d.Count()
				for range 3 {
					r.Clear()
					shows(t, "after Clear", r, 5+used, (pos+used)%count, count)
				}
				if w, b := d.Count(); w != writes || b != barriers {
					t.Errorf("Clear: %d writes, %d barriers", w-writes, b-barriers)
				}
				next := place{0, count, (pos + used) % count, 5 + used, 7, 8}
				next.finds(t, "after Clear", d)
				appends(t, "after Clear", r, text("new", 100*count), api.OK)
				shows(t, "after Clear and Append", r, 6+used, (pos+used)%count, 0)
				next.finds(t, "after Clear and Append", d, text("new", 100*count))
			}
		}
	}
}

// P12.3: what was appended in an epoch before that of Clear is not found behind it, though it has the next number and lies there.
func TestClearBeginsSinceItsEpoch(t *testing.T) {
	d, p := newDisk(t, 4), place{0, 4, 0, 1, 1, 3}
	old := p.finds(t, "epoch 3", d)
	appends(t, "epoch 3", old, "lost", api.OK)
	appends(t, "epoch 3", old, "kept", api.OK)
	d.Crash([]int{1})
	p.epoch = 4
	r := p.finds(t, "epoch 4", d)
	appends(t, "epoch 4", r, "again", api.OK)
	r.Clear()
	d.Barrier()
	shows(t, "after Clear", r, 2, 1, 4)
	place{0, 4, 1, 2, 3, 5}.finds(t, "since epoch 3", d, "kept")
	place{0, 4, 1, 2, 4, 5}.finds(t, "since its own epoch", d)
	appends(t, "after Clear", r, "next", api.OK)
	place{0, 4, 1, 2, 4, 5}.finds(t, "since its own epoch", d, "next")
}

// P12.3: Clear of a journal whose disk has failed.
func TestClearWithFailedDisk(t *testing.T) {
	d, p := newDisk(t, 4), place{0, 4, 3, 5, 2, 7}
	r := p.finds(t, "new", d)
	appends(t, "new", r, text("a", 350), api.OK)
	d.Arm(0)
	keeps(t, "full", r, "b", api.ErrFull)
	r.Clear()
	shows(t, "after Clear", r, 6, 3, 4)
	keeps(t, "a disk that fails", r, "b", api.ErrDown)
	if !r.Fits(400) {
		t.Error("there is space, also if the disk has failed")
	}
}

// P12.3: what fits, by the document's words, and that Append agrees.
func TestFits(t *testing.T) {
	lengths := append(sizes(), 6401, 6402, 6500, 1<<16)
	for room := range 67 {
		d, p := newDisk(t, 70), fresh(67)
		p.layAll(t, d, 2, filling(67-room)...)
		r := p.finds(t, "filled", d, filling(67-room)...)
		for _, n := range []int{math.MinInt, -1 << 32, -101, -100, -1, 1 << 32, 1<<32 + 1, math.MaxInt - 99, math.MaxInt} {
			if r.Fits(n) {
				t.Errorf("%d free positions: Fits(%d)", room, n)
			}
		}
		for _, n := range lengths {
			want := n <= longest && parts(text("r", n)) <= room
			if r.Fits(n) != want {
				t.Errorf("%d free positions: Fits(%d) = %v", room, n, r.Fits(n))
			}
			again, _, _ := p.open(d)
			if err := again.Append(text("r", n)); (err == api.OK) != want {
				t.Errorf("%d free positions: Append of %d bytes: error %d", room, n, err)
			}
			d.Crash(nil)
		}
	}
}

// P12.3: Fits changes nothing.
func TestFitsOnlyAsks(t *testing.T) {
	d, p := newDisk(t, 4), place{0, 4, 3, 5, 2, 7}
	p.layAll(t, d, 2, "a")
	r := p.finds(t, "laid", d, "a")
	writes, _ := d.Count()
	for _, n := range []int{-1, 0, 100, 300, 301, 6401} {
		r.Fits(n)
		p.showsRecords(t, "Fits", r, []string{"a"})
	}
	if now, _ := d.Count(); now != writes {
		t.Errorf("Fits: %d writes", now-writes)
	}
}

// P12.3: a nil ring, and one that Open did not make.
func TestNoRing(t *testing.T) {
	for _, r := range []*ring.Ring{nil, {}, new(ring.Ring)} {
		for range 2 {
			shows(t, "no ring", r, 0, 0, 0)
			for _, n := range []int{math.MinInt, -1, 0, 1, 100, 6400, 6401, math.MaxInt} {
				if r.Fits(n) {
					t.Errorf("no ring: Fits(%d)", n)
				}
			}
			keeps(t, "no ring", r, "a", api.ErrNil)
			r.Clear()
		}
	}
}

// P12.3: two rings of one journal go their own ways.
func TestTwoRings(t *testing.T) {
	d, p := newDisk(t, 8), place{0, 8, 6, 5, 2, 7}
	p.layAll(t, d, 2, "a", "b")
	r, s := p.finds(t, "one", d, "a", "b"), p.finds(t, "another", d, "a", "b")
	appends(t, "one", r, text("c", 250), api.OK)
	p.showsRecords(t, "one", r, []string{"a", "b", text("c", 250)})
	p.showsRecords(t, "another", s, []string{"a", "b"})
	s.Clear()
	shows(t, "another", s, 7, 0, 8)
	p.showsRecords(t, "one", r, []string{"a", "b", text("c", 250)})
}

// P1: every call ends and none panics, whatever it is given, also with a disk full of pieces.
func TestNoCallPanics(t *testing.T) {
	d := newDisk(t, 70)
	whole := place{0, 70, 0, 1, 1, 2}
	whole.layAll(t, d, 1, filling(70)...)
	numbers := []int{math.MinInt, -1, 0, 1, 2, 69, 70, high, high + 1, math.MaxInt}
	for _, from := range numbers {
		for _, count := range numbers {
			for _, pos := range numbers {
				for _, seq := range numbers {
					for _, epoch := range numbers {
						r, l, err := place{from, count, pos, seq, 1, epoch}.open(d)
						if (r == nil) != (err != api.OK) || r == nil && len(l) != 0 {
							t.Fatalf("Open at %v: %s, error %d", []int{from, count, pos, seq, epoch}, listed(l), err)
						}
						r.Fits(from)
						r.Append("a")
						r.Append(text("b", longest+1))
						r.Clear()
						d.Crash(nil)
					}
				}
			}
		}
	}
	whole.finds(t, "nothing was kept", d, filling(70)...)
	if writes, _ := d.Count(); writes == 70 {
		t.Error("nothing was appended")
	}
}
