package head_test

import (
	"math"
	"slices"
	"strings"
	"testing"

	"posthouse/api"
	"posthouse/disk"
)

// found is what Find answers of what two sectors have, by the document's words.
type found struct {
	head api.Head
	is   bool
}

// contents is what sectors may have: headers and other things, each with the header that it is.
func contents(t *testing.T) map[string]found {
	t.Helper()
	m := map[string]found{
		blank:                        {},
		strings.Repeat("\xff", size): {},
		"PHD1" + blank[4:]:           {},
		wire(t, ordinary(9))[:44] + "\x01" + blank[45:]: {},
	}
	damaged := []byte(wire(t, ordinary(8)))
	damaged[11] = 9
	m[string(damaged)] = found{}
	r := rawOf(ordinary(7))
	r.Area = 2
	m[r.wire(t)] = found{}
	r.Area, r.Gen = 1, 1<<63
	m[r.wire(t)] = found{}
	for _, h := range []api.Head{ordinary(1), ordinary(2), ordinary(3), {Gen: 2, Epoch: 1, Since: 1, Next: 1}, ordinary(1<<63 - 1)} {
		m[wire(t, h)] = found{h, true}
	}
	return m
}

// want is the header that Find answers, and the error, of what two sectors have.
func want(first, second found) (api.Head, api.Errno) {
	switch {
	case !first.is && !second.is:
		return api.Head{}, api.ErrNone
	case !second.is, first.is && first.head.Gen >= second.head.Gen:
		return first.head, api.OK
	}
	return second.head, api.OK
}

// P13.2: all pairs of what two sectors may have, persisted or pending, where the disk begins, in its middle and where it ends.
func TestFindPairs(t *testing.T) {
	all := contents(t)
	count := map[api.Errno]int{}
	for first, one := range all {
		for second, two := range all {
			for at := range 4 {
				h, err := want(one, two)
				// The headers beside the two sectors are none of theirs.
				sectors := slices.Repeat([]string{wire(t, ordinary(99))}, 5)
				sectors[at], sectors[at+1] = first, second
				d := newDisk(t, sectors...)
				finds(t, "persisted", d, at, h, err)
				d = newDisk(t, slices.Repeat([]string{wire(t, ordinary(99))}, 5)...)
				d.Write(at+1, second)
				d.Write(at, first)
				finds(t, "pending", d, at, h, err)
				count[err]++
			}
		}
	}
	if count[api.OK] < 100 || count[api.ErrNone] < 100 {
		t.Errorf("found and not: %v", count)
	}
}

// P13.2: with equal numbers, that of the first sector is found, whatever else they say.
func TestFindEqual(t *testing.T) {
	one, two := ordinary(6), ordinary(6)
	one.Pos, two.Pos = 1, 2
	finds(t, "equal", newDisk(t, wire(t, one), wire(t, two)), 0, one, api.OK)
	finds(t, "equal", newDisk(t, wire(t, two), wire(t, one)), 0, two, api.OK)
}

// P13.2: a header is found in either sector, be its number even or odd.
func TestFindAnywhere(t *testing.T) {
	for gen := 1; gen < 5; gen++ {
		h := ordinary(gen)
		finds(t, "in the first", newDisk(t, wire(t, h), blank), 0, h, api.OK)
		finds(t, "in the second", newDisk(t, blank, wire(t, h)), 0, h, api.OK)
	}
}

// P13.2: the number alone decides, however much smaller the others are.
func TestFindByGen(t *testing.T) {
	old, young := ordinary(6), api.Head{Gen: 7, Epoch: 1, Since: 1, Next: 1}
	finds(t, "the second", newDisk(t, wire(t, old), wire(t, young)), 0, young, api.OK)
	finds(t, "the first", newDisk(t, wire(t, young), wire(t, old)), 0, young, api.OK)
}

// P13.2: places at which not both sectors are on the disk, or none: the header on the disk is not told.
func TestFindOffTheDisk(t *testing.T) {
	h := wire(t, ordinary(6))
	for _, n := range []int{1, 2, 3, 9} {
		sectors := make([]string, n)
		for i := range sectors {
			sectors[i] = h
		}
		d := newDisk(t, sectors...)
		for _, at := range []int{math.MinInt, math.MinInt + 1, -n, -2, -1, n - 1, n, n + 1, 1 << 32, math.MaxInt - 1, math.MaxInt} {
			finds(t, "off the disk", d, at, api.Head{}, api.ErrRange)
		}
		for at := range n - 1 {
			finds(t, "on the disk", d, at, ordinary(6), api.OK)
		}
	}
}

// P13.2: no disk, one that disk.New did not make, and one that has failed, on which no sector is asked for.
func TestFindNoDisk(t *testing.T) {
	d := failed(t, wire(t, ordinary(1)), wire(t, ordinary(2)))
	for _, at := range []int{0, -2, -1, 1, 2, math.MinInt, math.MaxInt} {
		finds(t, "nil", nil, at, api.Head{}, api.ErrNil)
		finds(t, "not made", &disk.Disk{}, at, api.Head{}, api.ErrNil)
		finds(t, "failed", d, at, api.Head{}, api.ErrDown)
	}
}

// P13.2: Find writes nothing, and uses up no fuse.
func TestFindOnlyReads(t *testing.T) {
	d := newDisk(t, wire(t, ordinary(2)), wire(t, ordinary(1)))
	writes, barriers := d.Count()
	d.Arm(0)
	finds(t, "a fuse of 0", d, 0, ordinary(2), api.OK)
	finds(t, "a fuse of 0", d, 1, api.Head{}, api.ErrRange)
	if w, b := d.Count(); w != writes || b != barriers || d.Waiting() != 0 || d.Dead() {
		t.Errorf("after Find: %d writes, %d barriers, %d waiting, failed %v", w, b, d.Waiting(), d.Dead())
	}
}
