package ring_test

import (
	"math"
	"slices"
	"strconv"
	"testing"

	"posthouse/api"
	"posthouse/disk"
)

// P12.1: regions at the beginning, in the middle and at the end of a disk, and all of it; journals that begin at any position; no records, one and many, of one piece and of many.
func TestRegions(t *testing.T) {
	const size = 12
	lists := [][]string{nil, {""}, {"a"}, {text("a", 100)}, {text("a", 101)}, {"a", "b", "c"}, {text("a", 250), text("b", 150)}, {text("a", 100), text("b", 101), "", text("d", 300), "e"}, {text("a", 600), text("b", 600)}, {text("a", 1200)}}
	for _, region := range [][2]int{{0, 1}, {0, 2}, {0, 7}, {0, 8}, {2, 8}, {4, 8}, {5, 1}, {11, 1}, {0, 12}} {
		for pos := range region[1] {
			for _, records := range lists {
				p := place{region[0], region[1], pos, 5, 2, 9}
				if partsOf(records) > p.count {
					continue
				}
				d := newDisk(t, size)
				p.layAll(t, d, 2, records...)
				r := p.finds(t, "laid", d, records...)
				if p.count > partsOf(records) {
					appends(t, "behind them", r, "more", api.OK)
					p.epoch++
					p.finds(t, "appended", d, append(slices.Clone(records), "more")...)
				} else {
					keeps(t, "no room behind them", r, "more", api.ErrFull)
				}
			}
		}
	}
}

// P12.1: a greatest disk, whose region is all of it, and its last sectors.
func TestGreatestDisk(t *testing.T) {
	d := newDisk(t, 65536)
	p := place{0, 65536, 65535, 1, 1, 2}
	p.layAll(t, d, 1, "a", text("b", 200), "c")
	r := p.finds(t, "all of the disk", d, "a", text("b", 200), "c")
	appends(t, "all of the disk", r, text("d", longest), api.OK)
	shows(t, "all of the disk", r, 5, 67, 65536-68)
	last := place{65535, 1, 0, 7, 1, 2}
	last.layAll(t, d, 1, "last")
	last.finds(t, "the last sector", d, "last")
}

// P12.1: many records, and the longest one.
func TestManyRecords(t *testing.T) {
	d := newDisk(t, 1000)
	p := place{0, 1000, 900, 1, 1, 2}
	var records []string
	for n := range 400 {
		records = append(records, text("r"+strconv.Itoa(n), n%4*90))
	}
	p.layAll(t, d, 1, records...)
	p.finds(t, "many", d, records...)
	for _, count := range []int{64, 65, 100} {
		for _, n := range []int{6300, 6301, 6399, longest} {
			d, p := newDisk(t, 100), place{0, count, count - 1, 1, 1, 2}
			p.layAll(t, d, 1, text("long", n))
			p.finds(t, "long", d, text("long", n))
		}
	}
}

// edge is a change of a good place, and what Open answers then.
type edge struct {
	change func(p *place)
	want   api.Errno
}

// edges are the edges of each of a place's numbers, alone, for a place of 4 sectors from 2 on, of a disk of 8.
func edges() []edge {
	var l []edge
	add := func(want api.Errno, set func(p *place, n int), numbers ...int) {
		for _, n := range numbers {
			l = append(l, edge{func(p *place) { set(p, n) }, want})
		}
	}
	from := func(p *place, n int) { p.from = n }
	add(api.OK, from, 0, 1, 2, 3, 4)
	add(api.ErrRange, from, math.MinInt, -1<<32, -4, -1, 5, 7, 8, 9, 1<<32, 1<<32+2, math.MaxInt-4, math.MaxInt-3, math.MaxInt)
	count := func(p *place, n int) { p.count, p.pos = n, 0 }
	add(api.OK, count, 1, 2, 5, 6)
	add(api.ErrRange, count, math.MinInt, math.MinInt+2, -1<<32, -1, 0, 7, 8, 9, 1<<32, 1<<32+1, math.MaxInt-2, math.MaxInt-1, math.MaxInt)
	pos := func(p *place, n int) { p.pos = n }
	add(api.OK, pos, 0, 1, 2, 3)
	add(api.ErrRange, pos, math.MinInt, -1<<32, -4, -1, 4, 5, 8, 1<<32, math.MaxInt)
	seq := func(p *place, n int) { p.seq = n }
	add(api.OK, seq, 1, 2, high, high+1, math.MaxInt-1, math.MaxInt)
	add(api.ErrRange, seq, math.MinInt, -1<<32, -1, 0)
	epoch := func(p *place, n int) { p.since, p.epoch = 1, n }
	add(api.OK, epoch, 1, 2, 1<<31, high-1, high)
	add(api.ErrRange, epoch, math.MinInt, -1<<32, -1, 0, high+1, high+2, 1<<33+1, math.MaxInt)
	since := func(p *place, n int) { p.since = n }
	add(api.OK, since, 1, 2, 6, 7)
	add(api.ErrRange, since, math.MinInt, -1<<32, -1, 0, 8, 9, high, high+1, 1<<32+7, math.MaxInt)
	both := func(p *place, n int) { p.since, p.epoch = n, n }
	add(api.OK, both, 1, 2, high)
	add(api.ErrRange, both, -1, 0, high+1, math.MaxInt, math.MinInt)
	return l
}

// P12.1: from, count, pos, seq, epoch and since at their edges.
func TestEdges(t *testing.T) {
	for i, e := range edges() {
		d := newDisk(t, 8)
		p := place{2, 4, 3, 5, 2, 7}
		p.layAll(t, d, 2, "a", "b")
		e.change(&p)
		name := "edge " + strconv.Itoa(i)
		if e.want != api.OK {
			p.refuses(t, name, d, e.want)
			continue
		}
		r, l, err := p.open(d)
		if r == nil || err != api.OK || r.Room() != p.count-len(l) {
			t.Errorf("%s: Open at %+v: ring %v, %s, error %d", name, p, r != nil, listed(l), err)
		}
	}
}

// P12.1: a region that is as great as the disk, one sector more and one less, at each sector.
func TestRegionsOnDisk(t *testing.T) {
	for size := 1; size <= 5; size++ {
		d := newDisk(t, size)
		for from := -2; from <= size+2; from++ {
			for count := -2; count <= size+2; count++ {
				p := place{from, count, 0, 1, 1, 1}
				if from >= 0 && count >= 1 && from+count <= size {
					p.finds(t, "on the disk", d)
				} else {
					p.refuses(t, "not on the disk", d, api.ErrRange)
				}
			}
		}
	}
}

// P12.1: numbers whose sums or differences would not fit in an int.
func TestGreatNumbers(t *testing.T) {
	d := newDisk(t, 4)
	numbers := []int{math.MinInt, math.MinInt + 1, math.MinInt / 2, math.MaxInt / 2, math.MaxInt/2 + 1, math.MaxInt - 3, math.MaxInt - 1, math.MaxInt}
	for _, a := range numbers {
		for _, b := range numbers {
			place{a, b, 0, 1, 1, 1}.refuses(t, "from and count", d, api.ErrRange)
			place{a, 4, b, 1, 1, 1}.refuses(t, "from and pos", d, api.ErrRange)
			place{0, a, b, 1, 1, 1}.refuses(t, "count and pos", d, api.ErrRange)
			place{0, 4, 0, 1, a, b}.refuses(t, "since and epoch", d, api.ErrRange)
			place{a, b, a, b, a, b}.refuses(t, "all", d, api.ErrRange)
		}
	}
}

// failed is a disk that has failed.
func failed(t *testing.T, n int) *disk.Disk {
	t.Helper()
	d := newDisk(t, n)
	place{0, n, 0, 5, 2, 7}.layAll(t, d, 2, "a")
	d.Arm(0)
	d.Barrier()
	if !d.Dead() {
		t.Fatal("a fuse of 0 does not make a disk fail")
	}
	return d
}

// P12.1: of several errors the first one in the document's order, and nothing besides.
func TestFirstErrorOfOpen(t *testing.T) {
	good := place{0, 8, 0, 5, 2, 7}
	good.refuses(t, "no disk", nil, api.ErrNil)
	good.refuses(t, "a disk that has failed", failed(t, 8), api.ErrDown)
	for i, e := range edges() {
		p := place{2, 4, 3, 5, 2, 7}
		e.change(&p)
		name := strconv.Itoa(i)
		p.refuses(t, "no disk, edge "+name, nil, api.ErrNil)
		p.refuses(t, "a disk that has failed, edge "+name, failed(t, 8), api.ErrDown)
	}
	// A disk that New did not make has no sectors.
	good.refuses(t, "a disk that New did not make", &disk.Disk{}, api.ErrRange)
	d := failed(t, 8)
	good.refuses(t, "a disk that has failed", d, api.ErrDown)
	d.Crash(nil)
	good.finds(t, "the disk works again", d, "a")
}

// P12.1: pending writes count as well, and Open writes nothing and makes no barrier.
func TestOpenOnlyReads(t *testing.T) {
	d := newDisk(t, 4)
	p := place{1, 3, 2, 5, 2, 7}
	for i, record := range []string{"a", "b"} {
		d.Write(p.sector(2+i), bytes(t, pieces(t, record, 2, 5+i)[0]))
	}
	before := d.Image()
	d.Arm(0)
	p.finds(t, "pending", d, "a", "b")
	writes, barriers := d.Count()
	if writes != 2 || barriers != 0 || d.Waiting() != 2 || d.Dead() || !slices.Equal(d.Image(), before) {
		t.Errorf("Count %d, %d, Waiting %d, Dead %v", writes, barriers, d.Waiting(), d.Dead())
	}
}

// P12.1: what is returned is the caller's own.
func TestOwnRecords(t *testing.T) {
	d := newDisk(t, 4)
	p := place{0, 4, 1, 5, 2, 7}
	p.layAll(t, d, 2, "a", "b")
	r, l, _ := p.open(d)
	_, other, _ := p.open(d)
	l[0], l[1] = "x", "y"
	_ = append(l[:1], "z")
	if !slices.Equal(other, []string{"a", "b"}) {
		t.Errorf("another list has %q", other)
	}
	p.showsRecords(t, "after a change of the list", r, []string{"a", "b"})
	appends(t, "after a change of the list", r, "c", api.OK)
	p.epoch++
	p.finds(t, "after a change of the list", d, "a", "b", "c")
}

// P12.1: two journals in two regions of a disk do not see each other.
func TestTwoRegions(t *testing.T) {
	d := newDisk(t, 9)
	left, right := place{1, 4, 3, 5, 2, 7}, place{5, 4, 3, 5, 2, 7}
	r, s := left.finds(t, "left", d), right.finds(t, "right", d)
	for _, record := range []string{text("a", 101), "b", "c"} {
		appends(t, "left", r, record, api.OK)
		appends(t, "right", s, record+"'", api.OK)
	}
	left.epoch, right.epoch, left.since, right.since = 8, 8, 7, 7
	left.finds(t, "left", d, text("a", 101), "b", "c")
	right.finds(t, "right", d, text("a", 101)+"'", "b'", "c'")
	if s, _ := d.Read(0); s != string(make([]byte, api.Sector)) {
		t.Errorf("the sector ahead of both regions has %q", s)
	}
}
