package image_test

import (
	"encoding/binary"
	"hash/crc32"
	"math"
	"slices"
	"strconv"
	"strings"
	"testing"

	"posthouse/api"
	"posthouse/disk"
	"posthouse/image"
)

// The document's numbers: bytes of a sector, and of the longest text.
const (
	size    = 128
	longest = 1 << 20
)

// blank is a sector of zero bytes.
var blank = strings.Repeat("\x00", size)

// lengths is how many bytes texts have that are tried, with those beside which a text takes one sector more.
var lengths = []int{0, 1, 2, 3, 4, 5, 100, 116, 117, 119, 120, 121, 122, 124, 125, 127, 128, 129, 244, 245, 247, 248, 249, 376, 377, 1000, 6400}

// text is n bytes that are told apart from those with another tag, if there are enough of them.
func text(tag string, n int) string {
	var b strings.Builder
	for i := 0; b.Len() < n; i++ {
		b.WriteString(tag + strconv.Itoa(i) + "\x00\xff;")
	}
	return b.String()[:n]
}

// check is a text's checksum by the document's words.
func check(s string) uint32 {
	return crc32.Checksum([]byte(s), crc32.MakeTable(crc32.Castagnoli))
}

// takes is how many sectors a text of so many bytes takes, by the document's words.
func takes(n int) int {
	return int(math.Ceil((8 + 4*math.Ceil(float64(n)/4)) / size))
}

// raw is the sectors of a text, of the length and checksum that are said to be its own, and of zero bytes behind it.
func raw(length, sum uint32, s string) []string {
	b := binary.BigEndian.AppendUint32(nil, length)
	b = binary.BigEndian.AppendUint32(b, sum)
	b = append(b, s...)
	for len(b)%size != 0 {
		b = append(b, 0)
	}
	var l []string
	for part := range slices.Chunk(b, size) {
		l = append(l, string(part))
	}
	return l
}

// wire is the sectors in which a text is stored, by the document's words.
func wire(s string) []string {
	return raw(uint32(len(s)), check(s), s)
}

// stored is the text that is stored in an area, and whether one is, by the document's words.
func stored(area []string) (string, bool) {
	all := strings.Join(area, "")
	length := int(binary.BigEndian.Uint32([]byte(all)))
	if length > longest || takes(length) > len(area) {
		return "", false
	}
	s, behind := all[8:8+length], all[8+length:takes(length)*size]
	if check(s) != binary.BigEndian.Uint32([]byte(all[4:])) || strings.Trim(behind, "\x00") != "" {
		return "", false
	}
	return s, true
}

// junk is n sectors that are no text's, each of its own.
func junk(n int) []string {
	l := make([]string, n)
	for i := range l {
		l[i] = strings.Repeat("\xee"+strconv.Itoa(i)+"\xff", size)[:size]
	}
	return l
}

// newDisk is a disk that has these sectors, and nothing is pending.
func newDisk(t *testing.T, sectors []string) *disk.Disk {
	t.Helper()
	d, err := disk.New(len(sectors))
	if err != api.OK {
		t.Fatalf("a disk of %d sectors: error %d", len(sectors), err)
	}
	for i, s := range sectors {
		if err := d.Write(i, s); err != api.OK {
			t.Fatalf("writing the sector %d: error %d", i, err)
		}
	}
	d.Barrier()
	return d
}

// failed is a disk that has failed.
func failed(t *testing.T, sectors []string) *disk.Disk {
	t.Helper()
	d := newDisk(t, sectors)
	d.Arm(0)
	d.Barrier()
	return d
}

// with is sectors, with others in their place from one on.
func with(sectors []string, from int, others []string) []string {
	l := slices.Clone(sectors)
	copy(l[from:], others)
	return l
}

// holds tells whether these sectors are persisted on a disk.
func holds(t *testing.T, name string, d *disk.Disk, want []string) {
	t.Helper()
	got := d.Image()
	if len(got) != len(want) {
		t.Fatalf("%s: %d sectors, want %d", name, len(got), len(want))
	}
	for i := range got {
		if got[i] != want[i] {
			t.Fatalf("%s: the sector %d is %q, want %q", name, i, got[i], want[i])
		}
	}
}

// writes tells whether Write answers that.
func writes(t *testing.T, name string, d *disk.Disk, from, count int, s string, want api.Errno) {
	t.Helper()
	if err := image.Write(d, from, count, s); err != want {
		t.Fatalf("%s: Write of %d bytes in %d sectors from %d on: error %d, want %d", name, len(s), count, from, err, want)
	}
}

// reads tells whether Read answers that, with an error and without one.
func reads(t *testing.T, name string, d *disk.Disk, from, count int, want string, why api.Errno) {
	t.Helper()
	if s, err := image.Read(d, from, count); s != want || err != why {
		t.Fatalf("%s: Read of %d sectors from %d on: %d bytes %q, error %d, want %d bytes %q, error %d", name, count, from, len(s), s[:min(20, len(s))], err, len(want), want[:min(20, len(want))], why)
	}
}

// kept is which of the pending writes are in a set of bits.
func kept(set, waiting int) (keep []int) {
	for i := range waiting {
		if set&(1<<i) != 0 {
			keep = append(keep, i)
		}
	}
	return keep
}
