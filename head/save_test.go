package head_test

import (
	"math"
	"slices"
	"strings"
	"testing"

	"posthouse/api"
	"posthouse/disk"
	"posthouse/head"
)

// The chapter's example: blank sectors at 0 get the number 1 in the sector 1, then 2 in the sector 0; 3 is in the sector 1 again.
func TestExample(t *testing.T) {
	d := newDisk(t, blank, blank)
	h := api.Head{Epoch: 1, Since: 1, Next: 1}
	want := []string{blank, blank}
	for gen := 1; gen <= 5; gen++ {
		h.Gen = gen
		saves(t, "the example", d, 0, api.Head{Epoch: 1, Since: 1, Next: 1}, h, api.OK)
		want[gen%2] = wire(t, h)
		if got := d.Image(); !slices.Equal(got, want) {
			t.Errorf("after %d: %q, want %q", gen, got, want)
		}
		finds(t, "the example", d, 0, h, api.OK)
	}
}

// after is what Save leaves of sectors at a place, and what it answers, by the document's words.
func after(t *testing.T, sectors []string, at int, before, h api.Head) ([]string, api.Head, api.Errno) {
	t.Helper()
	if before.Gen == math.MaxInt {
		return sectors, api.Head{}, api.ErrForm
	}
	h.Gen = before.Gen + 1
	if !valid(h) {
		return sectors, api.Head{}, api.ErrForm
	}
	left := slices.Clone(sectors)
	if h.Gen%2 == 0 {
		left[at] = wire(t, h)
	} else {
		left[at+1] = wire(t, h)
	}
	return left, h, api.OK
}

// P13.3: all pairs of what two sectors may have: the number, whatever is given, the sector, one write and one barrier, and nothing of that when there is an error.
func TestSavePairs(t *testing.T) {
	all := contents(t)
	count := map[api.Errno]int{}
	for first, one := range all {
		for second, two := range all {
			before, _ := want(one, two)
			for _, gen := range []int{math.MinInt, -1, 0, 1, 2, 3, 4, 77, math.MaxInt} {
				for at := range 3 {
					sectors := []string{"u" + blank[1:], "v" + blank[1:], wire(t, ordinary(60)), "w" + blank[1:]}
					sectors[at], sectors[at+1] = first, second
					d := newDisk(t, sectors...)
					writes, barriers := d.Count()
					h := ordinary(gen)
					h.Next = 1000 + at
					left, saved, err := after(t, sectors, at, before, h)
					saves(t, "a pair", d, at, h, saved, err)
					if got := d.Image(); !slices.Equal(got, left) {
						t.Fatalf("Save of %+v at %d over %q: %q, want %q", h, at, sectors, got, left)
					}
					done := 1
					if err != api.OK {
						done = 0
					}
					if w, b := d.Count(); w != writes+done || b != barriers+done || d.Waiting() != 0 {
						t.Fatalf("Save of %+v at %d: %d writes and %d barriers more, %d waiting", h, at, w-writes, b-barriers, d.Waiting())
					}
					count[err]++
				}
			}
		}
	}
	if count[api.OK] < 1000 || count[api.ErrForm] < 100 {
		t.Errorf("saved and not: %v", count)
	}
}

// P13.3: a header that is not valid with its new number is not saved, whatever its own number; one that is valid but for its own number is.
func TestSaveInvalid(t *testing.T) {
	cases := []api.Head{
		{},
		{Gen: 5, Epoch: 1, Since: 1},
		{Gen: 5, Epoch: 1, Next: 1},
		{Gen: 5, Since: 1, Next: 1},
		{Gen: 5, Epoch: 1, Since: 2, Next: 1},
		{Gen: 5, Epoch: 1 << 32, Since: 1, Next: 1},
		{Gen: 5, Epoch: 1, Since: 1, Next: -1},
		{Gen: 5, Epoch: 1, Since: 1, Next: 1, Area: 2},
		{Gen: 5, Epoch: 1, Since: 1, Next: 1, Area: -1},
		{Gen: 5, Epoch: 1, Since: 1, Next: 1, Size: -1},
		{Gen: 5, Epoch: 1, Since: 1, Next: 1, Size: largest + 1},
		{Gen: 5, Epoch: 1, Since: 1, Next: 1, Pos: -1},
		{Gen: 5, Epoch: 1, Since: 1, Next: 1, Pos: last + 1},
	}
	for _, h := range cases {
		for _, sectors := range [][]string{{blank, blank}, {wire(t, ordinary(4)), wire(t, ordinary(3))}} {
			d := newDisk(t, sectors...)
			writes, barriers := d.Count()
			saves(t, "not valid", d, 0, h, api.Head{}, api.ErrForm)
			if w, b := d.Count(); w != writes || b != barriers || d.Waiting() != 0 || !slices.Equal(d.Image(), sectors) {
				t.Errorf("Save of %+v wrote something", h)
			}
		}
	}
	for _, gen := range []int{0, -1, math.MinInt, math.MaxInt} {
		d := newDisk(t, wire(t, ordinary(4)), wire(t, ordinary(3)))
		saves(t, "a number that does not count", d, 0, ordinary(gen), ordinary(5), api.OK)
	}
}

// P13.3: the last number of all may be saved, in the second sector, and none behind it.
func TestSaveLastGen(t *testing.T) {
	d := newDisk(t, wire(t, ordinary(math.MaxInt-1)), blank)
	saves(t, "the last", d, 0, ordinary(1), ordinary(math.MaxInt), api.OK)
	left := []string{wire(t, ordinary(math.MaxInt-1)), wire(t, ordinary(math.MaxInt))}
	saves(t, "behind the last", d, 0, ordinary(1), api.Head{}, api.ErrForm)
	if got := d.Image(); !slices.Equal(got, left) || d.Waiting() != 0 {
		t.Errorf("behind the last: %q, want %q", got, left)
	}
	finds(t, "the last", d, 0, ordinary(math.MaxInt), api.OK)
}

// P13.3: Find's errors, and that they come ahead of a header that is not valid.
func TestSaveErrors(t *testing.T) {
	sectors := []string{wire(t, ordinary(1)), wire(t, ordinary(2)), wire(t, ordinary(3))}
	for _, h := range []api.Head{ordinary(1), {}, {Gen: -1}} {
		for _, at := range []int{math.MinInt, -2, -1, 2, 3, math.MaxInt} {
			d := newDisk(t, sectors...)
			saves(t, "off the disk", d, at, h, api.Head{}, api.ErrRange)
			if got := d.Image(); !slices.Equal(got, sectors) || d.Waiting() != 0 {
				t.Errorf("Save at %d: %q, want %q", at, got, sectors)
			}
			saves(t, "failed", failed(t, sectors...), at, h, api.Head{}, api.ErrDown)
			saves(t, "nil", nil, at, h, api.Head{}, api.ErrNil)
			saves(t, "not made", &disk.Disk{}, at, h, api.Head{}, api.ErrNil)
		}
		saves(t, "failed", failed(t, sectors...), 0, h, api.Head{}, api.ErrDown)
		saves(t, "nil", nil, 0, h, api.Head{}, api.ErrNil)
		saves(t, "not made", &disk.Disk{}, 0, h, api.Head{}, api.ErrNil)
	}
}

// P13.3: the errors of a disk with a fuse: on the write nothing is pending, on the barrier the header's sector alone is; with two left, both are done.
func TestSaveFuse(t *testing.T) {
	for gen := 1; gen < 4; gen++ {
		sectors := []string{"a" + blank[1:], wire(t, ordinary(gen)), blank, "b" + blank[1:]}
		for fuse := range 3 {
			d := newDisk(t, sectors...)
			d.Arm(fuse)
			h, why := api.Head{}, api.ErrDown
			if fuse == 2 {
				h, why = ordinary(gen+1), api.OK
			}
			saves(t, "a fuse", d, 1, ordinary(0), h, why)
			if d.Dead() != (fuse < 2) || d.Waiting() != fuse%2 {
				t.Errorf("a fuse of %d: failed %v, %d waiting", fuse, d.Dead(), d.Waiting())
			}
			d.Crash([]int{0})
			left := slices.Clone(sectors)
			if fuse > 0 {
				left[1+(gen+1)%2] = wire(t, ordinary(gen+1))
			}
			if got := d.Image(); !slices.Equal(got, left) {
				t.Errorf("a fuse of %d: %q, want %q", fuse, got, left)
			}
		}
	}
}

// P13.3: the barrier is Save's own, and what else was pending is persisted by it.
func TestSaveBarrier(t *testing.T) {
	d := newDisk(t, blank, blank, blank)
	d.Write(2, "pending")
	saves(t, "a barrier", d, 0, ordinary(0), ordinary(1), api.OK)
	left := []string{blank, wire(t, ordinary(1)), "pending" + blank[7:]}
	d.Crash(nil)
	if got := d.Image(); !slices.Equal(got, left) {
		t.Errorf("after a crash: %q, want %q", got, left)
	}
}

// P1: no call panics, whatever it is given.
func TestNoCallPanics(t *testing.T) {
	numbers := []int{math.MinInt, math.MinInt + 1, -1, 0, 1, 2, 1 << 32, math.MaxInt - 1, math.MaxInt}
	small, _ := disk.New(1)
	disks := []*disk.Disk{nil, {}, small, newDisk(t, blank, wire(t, ordinary(math.MaxInt))), failed(t, blank, blank)}
	for _, n := range numbers {
		h := api.Head{Gen: n, Epoch: n, Since: n, Area: n, Size: n, Next: n, Pos: n}
		head.Check(h)
		head.Put(h)
		for _, d := range disks {
			head.Find(d, n)
			head.Save(d, n, h)
			head.Save(d, n, ordinary(n))
		}
	}
	for n := range 300 {
		head.Get(strings.Repeat("\xff", n))
		head.Get(blank[:n%size])
		head.Get("PHD1" + strings.Repeat("\x01", n))
	}
}
