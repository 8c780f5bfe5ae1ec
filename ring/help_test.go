package ring_test

import (
	"math"
	"slices"
	"strconv"
	"strings"
	"testing"

	"posthouse/api"
	"posthouse/disk"
	"posthouse/piece"
	"posthouse/ring"
)

// The document's numbers: the highest epoch, bytes of a piece's data, and of the longest record.
const (
	high    = 1<<32 - 1
	data    = 100
	longest = 6400
)

// place is where a journal is: its region, where and with which number it begins, since which epoch, and its own one.
type place struct {
	from, count, pos, seq, since, epoch int
}

// open opens the journal of a place.
func (p place) open(d *disk.Disk) (*ring.Ring, []string, api.Errno) {
	return ring.Open(d, p.from, p.count, p.pos, p.seq, p.since, p.epoch)
}

// sector is where a position is on the disk.
func (p place) sector(pos int) int {
	for pos >= p.count {
		pos -= p.count
	}
	return p.from + pos
}

// text is n bytes that are told apart from those with another tag, if there are enough of them.
func text(tag string, n int) string {
	if n == 0 {
		return ""
	}
	return strings.Repeat(tag+"\x00\xff;", n/len(tag)+1)[:n]
}

// parts is how many pieces a record has, by the document's words.
func parts(record string) int {
	return max(1, int(math.Ceil(float64(len(record))/data)))
}

// partsOf is how many pieces records have together.
func partsOf(records []string) (n int) {
	for _, record := range records {
		n += parts(record)
	}
	return n
}

// newDisk is a disk of n sectors.
func newDisk(t *testing.T, n int) *disk.Disk {
	t.Helper()
	d, err := disk.New(n)
	if err != api.OK {
		t.Fatalf("a disk of %d sectors: error %d", n, err)
	}
	return d
}

// pieces is the pieces of a record.
func pieces(t *testing.T, record string, epoch, seq int) []api.Piece {
	t.Helper()
	l, err := piece.Cut(record, epoch, seq)
	if err != api.OK {
		t.Fatalf("the pieces of %d bytes in %d with %d: error %d", len(record), epoch, seq, err)
	}
	return l
}

// bytes is what a piece's sector has.
func bytes(t *testing.T, p api.Piece) string {
	t.Helper()
	s, err := piece.Put(p)
	if err != api.OK {
		t.Fatalf("the bytes of %+v: error %d", p, err)
	}
	return s
}

// lay writes pieces from a position on, and a barrier; it tells the position behind them.
func (p place) lay(t *testing.T, d *disk.Disk, pos int, l ...api.Piece) int {
	t.Helper()
	for i, one := range l {
		if err := d.Write(p.sector(pos+i), bytes(t, one)); err != api.OK {
			t.Fatalf("writing a piece at %d: error %d", pos+i, err)
		}
	}
	d.Barrier()
	return (pos + len(l)) % p.count
}

// layAll writes records one behind the other from the journal's beginning on, with its numbers, in one epoch.
func (p place) layAll(t *testing.T, d *disk.Disk, epoch int, records ...string) {
	t.Helper()
	pos := p.pos
	for i, record := range records {
		pos = p.lay(t, d, pos, pieces(t, record, epoch, p.seq+i)...)
	}
}

// shows tells whether a ring has that next number, that position and that room.
func shows(t *testing.T, name string, r *ring.Ring, next, pos, room int) {
	t.Helper()
	if r.Next() != next || r.Pos() != pos || r.Room() != room {
		t.Fatalf("%s: Next %d, Pos %d, Room %d, want %d, %d, %d", name, r.Next(), r.Pos(), r.Room(), next, pos, room)
	}
}

// showsRecords tells whether a ring is where one is that has these records since its beginning at that place.
func (p place) showsRecords(t *testing.T, name string, r *ring.Ring, records []string) {
	t.Helper()
	used := partsOf(records)
	shows(t, name, r, p.seq+len(records), (p.pos+used)%p.count, p.count-used)
}

// finds tells whether just these records are found at a place, and returns the ring.
func (p place) finds(t *testing.T, name string, d *disk.Disk, want ...string) *ring.Ring {
	t.Helper()
	r, got, err := p.open(d)
	if r == nil || err != api.OK || !slices.Equal(got, want) {
		t.Fatalf("%s: Open at %+v: ring %v, %s, error %d, want %s", name, p, r != nil, listed(got), err, listed(want))
	}
	p.showsRecords(t, name, r, want)
	return r
}

// listed is records in a form that is short enough to be read.
func listed(records []string) string {
	var b strings.Builder
	b.WriteString(strconv.Itoa(len(records)) + " records:")
	for _, record := range records {
		b.WriteString(" " + strconv.Itoa(len(record)) + " bytes " + strconv.Quote(record[:min(9, len(record))]))
	}
	return b.String()
}

// refuses tells whether Open answers an error and nothing besides.
func (p place) refuses(t *testing.T, name string, d *disk.Disk, want api.Errno) {
	t.Helper()
	if r, l, err := p.open(d); r != nil || len(l) != 0 || err != want {
		t.Errorf("%s: Open at %+v: ring %v, %s, error %d, want error %d", name, p, r != nil, listed(l), err, want)
	}
}

// appends tells whether a record is appended with that result.
func appends(t *testing.T, name string, r *ring.Ring, record string, want api.Errno) {
	t.Helper()
	if err := r.Append(record); err != want {
		t.Fatalf("%s: Append of %d bytes: error %d, want %d", name, len(record), err, want)
	}
}

// keeps tells whether Append answers an error, and the ring stays as it was.
func keeps(t *testing.T, name string, r *ring.Ring, record string, want api.Errno) {
	t.Helper()
	next, pos, room := r.Next(), r.Pos(), r.Room()
	appends(t, name, r, record, want)
	shows(t, name, r, next, pos, room)
}
