package ring_test

import (
	"math"
	"slices"
	"testing"

	"posthouse/api"
	"posthouse/ring"
)

// fresh is a journal without records in a region of count sectors, of a disk that has one more on either side.
func fresh(count int) place {
	return place{1, count, count - 1, 5, 2, 7}
}

// sizes are how many bytes records may have, the edges among them.
func sizes() []int {
	return []int{0, 1, 50, 99, 100, 101, 199, 200, 201, 300, 6299, 6300, 6301, 6399, longest}
}

// P12.2: records of any size: their pieces, with the next number and the journal's epoch, are pending writes behind the journal's records, and there is no barrier.
func TestAppend(t *testing.T) {
	for _, n := range sizes() {
		d, p, record := newDisk(t, 100), fresh(98), text("r", n)
		p.layAll(t, d, 3, "before", text("two", 150))
		r := p.finds(t, "laid", d, "before", text("two", 150))
		image := d.Image()
		writes, barriers := d.Count()
		pos := r.Pos()
		appends(t, "any size", r, record, api.OK)
		p.showsRecords(t, "any size", r, []string{"before", text("two", 150), record})
		want := slices.Clone(image)
		for i, one := range pieces(t, record, 7, 7) {
			want[p.sector(pos+i)] = bytes(t, one)
		}
		for i := range want {
			if s, err := d.Read(i); s != want[i] || err != api.OK {
				t.Errorf("%d bytes: sector %d has %q, error %d, want %q", n, i, s, err, want[i])
			}
		}
		more, same := d.Count()
		if d.Waiting() != parts(record) || more != writes+parts(record) || same != barriers || !slices.Equal(d.Image(), image) {
			t.Errorf("%d bytes: Waiting %d, %d writes, %d barriers", n, d.Waiting(), more-writes, same-barriers)
		}
		d.Barrier()
		if !slices.Equal(d.Image(), want) {
			t.Errorf("%d bytes: after a barrier something else is persisted", n)
		}
		p.epoch++
		p.finds(t, "any size", d, "before", text("two", 150), record)
	}
}

// P12.2: records one behind the other, in several epochs, at any position, round the region.
func TestAppendRound(t *testing.T) {
	for count := 1; count <= 9; count++ {
		for pos := range count {
			d, p := newDisk(t, count+2), place{1, count, pos, 1, 1, 1}
			var records []string
			for _, n := range []int{1, 101, 0, 100, 300, 2, 3, 4, 5} {
				r := p.finds(t, "round", d, records...)
				record := text("r", n)
				if parts(record) > r.Room() {
					keeps(t, "round", r, record, api.ErrFull)
					continue
				}
				appends(t, "round", r, record, api.OK)
				records = append(records, record)
				p.showsRecords(t, "round", r, records)
				p.epoch += n % 3
				if n%3 == 0 {
					p.epoch++
				}
			}
		}
	}
}

// P12.2: a record that is too long, and one with a number that no piece may have.
func TestErrorsOfCut(t *testing.T) {
	d, p := newDisk(t, 200), fresh(198)
	r := p.finds(t, "new", d)
	for _, n := range []int{6401, 6402, 6500, 1 << 20} {
		keeps(t, "too long", r, text("r", n), api.ErrLong)
	}
	appends(t, "just not too long", r, text("r", longest), api.OK)
	for left := range 3 {
		p := place{1, 198, 3, math.MaxInt - left, high, high}
		r := p.finds(t, "a last number", newDisk(t, 200))
		for range left + 1 {
			appends(t, "a last number", r, "", api.OK)
		}
		for range 3 {
			if r.Next() >= 1 {
				t.Errorf("behind the last number: %d", r.Next())
			}
			keeps(t, "behind the last number", r, "", api.ErrRange)
			keeps(t, "behind the last number", r, text("r", longest), api.ErrRange)
			keeps(t, "behind the last number, too long", r, text("r", 6401), api.ErrLong)
			r.Clear()
		}
	}
}

// P12.2: as many free positions as the record needs, one more and one less.
func TestSpace(t *testing.T) {
	for _, n := range sizes() {
		record := text("r", n)
		for room := max(1, parts(record)-1); room <= parts(record)+1; room++ {
			d, p := newDisk(t, 70), fresh(67)
			p.layAll(t, d, 2, filling(67-room)...)
			r := p.finds(t, "filled", d, filling(67-room)...)
			if room < parts(record) {
				keeps(t, "one position less", r, record, api.ErrFull)
				if d.Waiting() != 0 {
					t.Errorf("what has no space left %d writes", d.Waiting())
				}
				continue
			}
			appends(t, "space", r, record, api.OK)
			p.epoch++
			p.finds(t, "space", d, append(filling(67-room), record)...)
		}
	}
}

// P12.2: a disk that has failed: the journal is as it was, and goes on when the disk works again.
func TestAppendToFailedDisk(t *testing.T) {
	d, p := newDisk(t, 10), fresh(8)
	r := p.finds(t, "new", d)
	appends(t, "a disk that works", r, "a", api.OK)
	d.Barrier()
	d.Arm(0)
	d.Barrier()
	for _, n := range []int{0, 1, 101, 700} {
		keeps(t, "a disk that has failed", r, text("r", n), api.ErrDown)
	}
	d.Crash(nil)
	p.showsRecords(t, "after a crash", r, []string{"a"})
	appends(t, "after a crash", r, "b", api.OK)
	p.epoch++
	p.finds(t, "after a crash", d, "a", "b")
}

// P12.2: a disk that fails at each of a record's sectors: the journal is as it was, by what it shows and by what is found later, whatever is kept.
func TestFuses(t *testing.T) {
	for _, n := range []int{0, 1, 100, 101, 200, 300, 450, longest} {
		record := text("r", n)
		for fuse := range parts(record) + 1 {
			for _, keep := range [][]int{nil, {0}, {fuse - 1}, {0, 1, 2, 3}, {1, 3}, everything()} {
				d, p := newDisk(t, 72), fresh(70)
				r := p.finds(t, "new", d)
				appends(t, "before", r, "before", api.OK)
				d.Barrier()
				d.Arm(fuse)
				if fuse == parts(record) {
					appends(t, "a fuse that is long enough", r, record, api.OK)
					p.showsRecords(t, "a fuse that is long enough", r, []string{"before", record})
					continue
				}
				keeps(t, "a fuse", r, record, api.ErrDown)
				if !d.Dead() {
					t.Fatalf("a fuse of %d: the disk works yet", fuse)
				}
				d.Crash(keep)
				p.showsRecords(t, "after a crash", r, []string{"before"})
				p.epoch++
				r = p.finds(t, "after a crash", d, "before")
				appends(t, "after a crash", r, text("s", n), api.OK)
				p.epoch++
				p.finds(t, "after a crash", d, "before", text("s", n))
			}
		}
	}
}

// everything is all positions that pending writes have here.
func everything() (l []int) {
	for i := range 100 {
		l = append(l, i)
	}
	return l
}

// P12.2: of several errors the first one in the document's order; what is refused is not written.
func TestFirstErrorOfAppend(t *testing.T) {
	long, wide := text("r", 6401), text("r", 900)
	for _, dead := range []bool{false, true} {
		d, p := newDisk(t, 10), place{1, 8, 0, math.MaxInt, 1, 7}
		last, r := p.finds(t, "a last number", d), place{1, 8, 0, 5, 1, 7}.finds(t, "new", d)
		appends(t, "a last number", last, text("r", 800), api.OK)
		appends(t, "new", r, "a", api.OK)
		end := api.OK
		if dead {
			d.Arm(0)
			d.Barrier()
			end = api.ErrDown
		}
		writes, _ := d.Count()
		keeps(t, "too long, no number, no space", last, long, api.ErrLong)
		keeps(t, "no number, no space", last, wide, api.ErrRange)
		keeps(t, "no number, no space", last, "", api.ErrRange)
		keeps(t, "too long, no space", r, long, api.ErrLong)
		keeps(t, "no space", r, wide, api.ErrFull)
		if now, _ := d.Count(); now != writes || d.Dead() != dead {
			t.Errorf("what was refused: %d writes, the disk has failed: %v", now-writes, d.Dead())
		}
		appends(t, "no error but that of the disk", r, text("r", 700), end)
		for _, none := range []*ring.Ring{nil, {}} {
			keeps(t, "no ring", none, long, api.ErrNil)
			keeps(t, "no ring", none, "", api.ErrNil)
		}
	}
}

// P12.2: what is refused does not use up a fuse.
func TestRefusedAppendIsNotWritten(t *testing.T) {
	d, p := newDisk(t, 10), fresh(8)
	r := p.finds(t, "new", d)
	d.Arm(2)
	keeps(t, "no space", r, text("r", 801), api.ErrFull)
	keeps(t, "too long", r, text("r", 6401), api.ErrLong)
	appends(t, "a fuse of two", r, text("r", 200), api.OK)
	keeps(t, "a fuse of none", r, "", api.ErrDown)
}

// P12.2: the ring keeps nothing that the caller may change.
func TestOwnRecord(t *testing.T) {
	d, p := newDisk(t, 10), fresh(8)
	r := p.finds(t, "new", d)
	buffer := []byte(text("r", 250))
	for _, char := range []byte("abc") {
		buffer[100] = char
		if char == 'b' {
			buffer = buffer[:120]
		}
		appends(t, "a buffer", r, string(buffer), api.OK)
	}
	clear(buffer)
	want := []byte(text("r", 250))
	var records []string
	for _, char := range []byte("abc") {
		want[100] = char
		if char == 'b' {
			want = want[:120]
		}
		records = append(records, string(want))
	}
	p.epoch++
	p.finds(t, "a buffer", d, records...)
}
