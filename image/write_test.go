package image_test

import (
	"math"
	"slices"
	"strings"
	"testing"

	"posthouse/api"
	"posthouse/disk"
	"posthouse/image"
)

// The chapter's example, and P14.1 at its edges.
func TestSectors(t *testing.T) {
	cases := []struct{ n, want int }{
		{120, 1}, {121, 2},
		{0, 1}, {1, 1}, {116, 1}, {117, 1}, {119, 1}, {124, 2}, {127, 2}, {128, 2}, {129, 2}, {247, 2}, {248, 2}, {249, 3}, {376, 3}, {377, 4},
		{1 << 19, 4097}, {1<<20 - 9, 8192}, {1<<20 - 8, 8192}, {1<<20 - 7, 8193}, {1<<20 - 1, 8193}, {1 << 20, 8193},
		{1<<20 + 1, 0}, {1<<20 + 4, 0}, {1 << 21, 0}, {1 << 32, 0}, {1<<32 + 120, 0}, {math.MaxInt - 7, 0}, {math.MaxInt - 1, 0}, {math.MaxInt, 0},
		{-1, 0}, {-4, 0}, {-8, 0}, {-128, 0}, {-1 << 32, 0}, {math.MinInt + 1, 0}, {math.MinInt, 0},
	}
	for _, c := range cases {
		if got := image.Sectors(c.n); got != c.want {
			t.Errorf("Sectors(%d) = %d, want %d", c.n, got, c.want)
		}
	}
}

// P14.1: texts of each length.
func TestSectorsOfAll(t *testing.T) {
	for n := range longest + 1 {
		if got := image.Sectors(n); got != takes(n) {
			t.Fatalf("Sectors(%d) = %d, want %d", n, got, takes(n))
		}
	}
}

// P14.2: the sectors of texts, spelt out.
func TestBytes(t *testing.T) {
	a120, a121 := strings.Repeat("a", 120), strings.Repeat("a", 121)
	cases := []struct {
		s    string
		want []string
	}{
		{"", []string{blank}},
		{"abc", []string{"\x00\x00\x00\x03" + "\x36\x4b\x3f\xb7" + "abc" + strings.Repeat("\x00", 117)}},
		{"123456789", []string{"\x00\x00\x00\x09" + "\xe3\x06\x92\x83" + "123456789" + strings.Repeat("\x00", 111)}},
		{a120, []string{"\x00\x00\x00\x78" + "\xf3\x62\x03\x07" + a120}},
		{a121, []string{"\x00\x00\x00\x79" + "\x15\xe9\x45\xd8" + a120, "a" + strings.Repeat("\x00", 127)}},
	}
	for _, c := range cases {
		all := junk(4)
		d := newDisk(t, all)
		writes(t, "spelt out", d, 1, 2, c.s, api.OK)
		holds(t, "ahead of a barrier", d, all)
		d.Barrier()
		holds(t, "behind a barrier", d, with(all, 1, c.want))
		reads(t, "spelt out", newDisk(t, with(all, 1, c.want)), 1, 2, c.s, api.OK)
	}
}

// P14.2, P14.3, P14.4: texts of many lengths, where the disk begins, in its middle and where it ends, in areas that just hold them, that hold more, and that hold less.
func TestLengths(t *testing.T) {
	for _, n := range lengths {
		s, need := text("s", n), takes(n)
		for _, ahead := range []int{0, 1, 5} {
			for _, behind := range []int{0, 1, 7} {
				all := junk(ahead + need + behind)
				for count := 1; count <= need+behind; count++ {
					d := newDisk(t, all)
					if count < need {
						writes(t, "too long", d, ahead, count, s, api.ErrFull)
						changed(t, d, all, nil)
						continue
					}
					writes(t, "a text", d, ahead, count, s, api.OK)
					reads(t, "pending", d, ahead, count, s, api.OK)
					reads(t, "pending, just so many", d, ahead, need, s, api.OK)
					changed(t, d, all, with(all, ahead, wire(s)))
					reads(t, "persisted", d, ahead, count, s, api.OK)
				}
			}
		}
	}
}

// changed tells whether just those sectors wait, once each and with the right bytes, that differ from those of before; with nothing to be, none does.
func changed(t *testing.T, d *disk.Disk, before, want []string) {
	t.Helper()
	if want == nil {
		want = before
	}
	n := 0
	for i := range want {
		if want[i] != before[i] {
			n++
		}
	}
	if d.Waiting() != n {
		t.Fatalf("%d sectors wait, want %d", d.Waiting(), n)
	}
	holds(t, "ahead of a barrier", d, before)
	d.Barrier()
	holds(t, "behind a barrier", d, want)
}

// P14.2: each of the pending writes is one of the text's sectors, and each sector is one of them; there is no barrier.
func TestEachWaits(t *testing.T) {
	for _, n := range lengths {
		s, all := text("s", n), junk(60)
		need := takes(n)
		var seen []int
		for i := range need {
			d := newDisk(t, all)
			count, barriers := d.Count()
			writes(t, "a text", d, 4, 55, s, api.OK)
			if w, b := d.Count(); w != count+need || b != barriers || d.Waiting() != need {
				t.Fatalf("%d bytes: %d writes, %d barriers, %d waiting, want %d writes and no barrier", n, w-count, b-barriers, d.Waiting(), need)
			}
			d.Crash([]int{i})
			for at, now := range d.Image() {
				if now == all[at] {
					continue
				}
				if at < 4 || at >= 4+need || now != wire(s)[at-4] {
					t.Fatalf("%d bytes: the sector %d is %q", n, at, now)
				}
				seen = append(seen, at)
			}
		}
		slices.Sort(seen)
		if len(slices.Compact(seen)) != need {
			t.Errorf("%d bytes: the sectors %v wait", n, seen)
		}
	}
}

// P14.2: the longest texts, and those that are longer, whatever the area holds.
func TestLongest(t *testing.T) {
	d := newDisk(t, make([]string, 8200))
	for _, n := range []int{longest - 8, longest - 7, longest - 1, longest} {
		s, need := text("s", n), takes(n)
		writes(t, "a sector too few", d, 3, need-1, s, api.ErrFull)
		writes(t, "the longest", d, 3, need, s, api.OK)
		reads(t, "the longest", d, 3, need, s, api.OK)
		reads(t, "the longest", d, 3, 8197, s, api.OK)
		d.Barrier()
		holds(t, "the longest", d, with(d.Image(), 3, wire(s)))
	}
	before := d.Image()
	for _, n := range []int{longest + 1, longest + 4, longest + size, 2 * longest} {
		writes(t, "longer", d, 0, 8200, text("s", n), api.ErrFull)
		if d.Waiting() != 0 {
			t.Errorf("%d bytes: %d sectors wait", n, d.Waiting())
		}
	}
	holds(t, "longer", d, before)
}

// areas is areas on a disk of nine sectors or not, each with ErrRange or OK.
func areas() map[[2]int]api.Errno {
	m := map[[2]int]api.Errno{}
	numbers := []int{math.MinInt, math.MinInt + 1, math.MinInt + 8, math.MinInt + 9, -1 << 32, -9, -1, 0, 1, 2, 8, 9, 10, 1 << 32, math.MaxInt - 9, math.MaxInt - 8, math.MaxInt - 1, math.MaxInt}
	for _, from := range numbers {
		for _, count := range numbers {
			m[[2]int{from, count}] = api.ErrRange
			// All areas that are on the disk, without a sum of great numbers.
			if 0 <= from && from <= 9 && 1 <= count && count <= 9 && from+count <= 9 {
				m[[2]int{from, count}] = api.OK
			}
		}
	}
	return m
}

// P14.2, P14.3: areas that are on a disk or not, with sums that fit in no int.
func TestAreas(t *testing.T) {
	all := slices.Repeat(wire("before"), 9)
	count := map[api.Errno]int{}
	for area, why := range areas() {
		d := newDisk(t, all)
		s := ""
		if why == api.OK {
			s = "before"
		}
		reads(t, "an area", d, area[0], area[1], s, why)
		writes(t, "an area", d, area[0], area[1], "after", why)
		if why == api.OK {
			changed(t, d, all, with(all, area[0], wire("after")))
		} else {
			changed(t, d, all, nil)
		}
		count[why]++
	}
	if count[api.OK] < 10 || count[api.ErrRange] < 100 {
		t.Errorf("on the disk and not: %v", count)
	}
}

// P14.2: the first error of several: no disk, then the area, then the text, then the disk.
func TestWriteErrors(t *testing.T) {
	long, longer := text("s", 121), text("s", longest+1)
	all := junk(3)
	cases := []struct {
		name        string
		from, count int
		s           string
		want        api.Errno
	}{
		{"one sector beyond", 2, 2, "a", api.ErrRange},
		{"one sector beyond, too long", 3, 1, long, api.ErrRange},
		{"no sector", 0, 0, "", api.ErrRange},
		{"no sector, too long", 0, 0, longer, api.ErrRange},
		{"below 0", -1, 2, longer, api.ErrRange},
		{"two sectors in one", 2, 1, long, api.ErrFull},
		{"too long", 0, 3, longer, api.ErrFull},
		{"all is well", 0, 3, long, api.OK},
	}
	for _, c := range cases {
		writes(t, c.name, nil, c.from, c.count, c.s, api.ErrNil)
		writes(t, c.name, &disk.Disk{}, c.from, c.count, c.s, api.ErrRange)
		d := failed(t, all)
		if c.want == api.OK {
			writes(t, c.name, d, c.from, c.count, c.s, api.ErrDown)
		} else {
			writes(t, c.name, d, c.from, c.count, c.s, c.want)
		}
		d.Crash(nil)
		holds(t, c.name, d, all)
		d = newDisk(t, all)
		writes(t, c.name, d, c.from, c.count, c.s, c.want)
		if c.want != api.OK {
			changed(t, d, all, nil)
		}
	}
}

// P14.2: a disk that fails at each of a text's sectors: as many wait as were written until then, each of them the text's.
func TestWriteFuse(t *testing.T) {
	s, all := text("s", 600), junk(9)
	need := takes(600)
	for fuse := range need + 2 {
		d := newDisk(t, all)
		d.Arm(fuse)
		want, waiting := api.ErrDown, fuse
		if fuse >= need {
			want, waiting = api.OK, need
		}
		writes(t, "a fuse", d, 2, 7, s, want)
		if d.Dead() != (fuse < need) || d.Waiting() != waiting {
			t.Errorf("a fuse of %d: failed %v, %d waiting", fuse, d.Dead(), d.Waiting())
		}
		d.Crash(kept(-1, d.Waiting()))
		n, goal := 0, with(all, 2, wire(s))
		for i, now := range d.Image() {
			switch {
			case now == all[i]:
			case now == goal[i]:
				n++
			default:
				t.Errorf("a fuse of %d: the sector %d is %q", fuse, i, now)
			}
		}
		if n != waiting {
			t.Errorf("a fuse of %d: %d sectors are written", fuse, n)
		}
	}
}

// P1: no call panics, whatever it is given.
func TestNoCallPanics(t *testing.T) {
	numbers := []int{math.MinInt, math.MinInt + 1, -1, 0, 1, 2, 3, 1 << 32, math.MaxInt - 1, math.MaxInt}
	small, _ := disk.New(1)
	longer := strings.Repeat("\xff", longest+1)
	for _, d := range []*disk.Disk{nil, {}, small, newDisk(t, junk(2)), newDisk(t, slices.Repeat([]string{blank}, 2)), failed(t, junk(2))} {
		for _, from := range numbers {
			image.Sectors(from)
			for _, count := range numbers {
				image.Read(d, from, count)
				for _, n := range []int{0, 1, 120, 121, 248, 249, longest, longest + 1} {
					image.Write(d, from, count, longer[:n])
				}
				image.Read(d, from, count)
			}
		}
	}
}
