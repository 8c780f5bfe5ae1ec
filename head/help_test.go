package head_test

import (
	"encoding/binary"
	"hash/crc32"
	"math"
	"strings"
	"testing"

	"posthouse/api"
	"posthouse/disk"
	"posthouse/head"
)

// The document's numbers: bytes of a sector, the highest epoch, the greatest size and position.
const (
	size    = 128
	high    = 1<<32 - 1
	largest = 1 << 24
	last    = 65535
)

// blank is a sector of zero bytes.
var blank = strings.Repeat("\x00", size)

// raw is the numbers that a header's bytes have, be they a header's or not.
type raw struct {
	Mark                     uint32
	Gen                      uint64
	Epoch, Since, Area, Size uint32
	Next                     uint64
	Pos                      uint32
}

// rawOf is the numbers of a header.
func rawOf(h api.Head) raw {
	return raw{0x50484431, uint64(h.Gen), uint32(h.Epoch), uint32(h.Since), uint32(h.Area), uint32(h.Size), uint64(h.Next), uint32(h.Pos)}
}

// wire is the bytes of numbers by the document's words: behind them their checksum, and zero bytes up to the sector's end.
func (r raw) wire(t *testing.T) string {
	t.Helper()
	b, err := binary.Append(nil, binary.BigEndian, r)
	if err != nil {
		t.Fatal(err)
	}
	b = binary.BigEndian.AppendUint32(b, crc32.Checksum(b, crc32.MakeTable(crc32.Castagnoli)))
	return string(b) + blank[len(b):]
}

// wire is the bytes of a header by the document's words.
func wire(t *testing.T, h api.Head) string {
	t.Helper()
	return rawOf(h).wire(t)
}

// within tells whether a number is in a range.
func within(n, from, to int) bool {
	return from <= n && n <= to
}

// valid tells whether a header is valid by the document's words.
func valid(h api.Head) bool {
	return within(h.Gen, 1, math.MaxInt) && within(h.Next, 1, math.MaxInt) && within(h.Epoch, 1, high) &&
		within(h.Since, 1, h.Epoch) && within(h.Area, 0, 1) && within(h.Size, 0, largest) && within(h.Pos, 0, last)
}

// ordinary is a valid header with that number.
func ordinary(gen int) api.Head {
	return api.Head{Gen: gen, Epoch: 9, Since: 4, Area: 1, Size: 4321, Next: 77, Pos: 12}
}

// is tells whether Get finds just this header in bytes.
func is(t *testing.T, name, s string, want api.Head) {
	t.Helper()
	if h, err := head.Get(s); h != want || err != api.OK {
		t.Errorf("%s: Get = %+v, error %d, want %+v", name, h, err, want)
	}
}

// none tells whether Get finds no header in bytes, and answers nothing besides.
func none(t *testing.T, name, s string) {
	t.Helper()
	if h, err := head.Get(s); h != (api.Head{}) || err != api.ErrForm {
		t.Errorf("%s: Get(%q) = %+v, error %d, want error %d", name, s, h, err, api.ErrForm)
	}
}

// newDisk is a disk that has these sectors, and nothing is pending.
func newDisk(t *testing.T, sectors ...string) *disk.Disk {
	t.Helper()
	d, err := disk.New(len(sectors))
	if err != api.OK {
		t.Fatalf("a disk of %d sectors: error %d", len(sectors), err)
	}
	for i, s := range sectors {
		if err := d.Write(i, s); err != api.OK {
			t.Fatalf("writing the sector %d: error %d", i, err)
		}
	}
	d.Barrier()
	return d
}

// failed is a disk that has failed.
func failed(t *testing.T, sectors ...string) *disk.Disk {
	t.Helper()
	d := newDisk(t, sectors...)
	d.Arm(0)
	d.Barrier()
	return d
}

// finds tells whether Find answers that, with an error and without one.
func finds(t *testing.T, name string, d *disk.Disk, at int, want api.Head, why api.Errno) {
	t.Helper()
	if h, err := head.Find(d, at); h != want || err != why {
		t.Errorf("%s: Find at %d = %+v, error %d, want %+v, error %d", name, at, h, err, want, why)
	}
}

// saves tells whether Save answers that, with an error and without one.
func saves(t *testing.T, name string, d *disk.Disk, at int, h, want api.Head, why api.Errno) {
	t.Helper()
	if got, err := head.Save(d, at, h); got != want || err != why {
		t.Errorf("%s: Save of %+v at %d = %+v, error %d, want %+v, error %d", name, h, at, got, err, want, why)
	}
}
