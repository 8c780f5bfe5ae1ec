package disk_test

import (
	"math"
	"slices"
	"strings"
	"testing"

	"posthouse/api"
	"posthouse/disk"
)

// refused tells whether a call answered an error.
func refused(t *testing.T, name string, got, want api.Errno) {
	t.Helper()
	if got != want {
		t.Errorf("%s: error %d, want %d", name, got, want)
	}
}

// has tells whether a sector has that text, padded.
func has(t *testing.T, d *disk.Disk, i int, want string) {
	t.Helper()
	if got, err := d.Read(i); got != padded(want) || err != api.OK {
		t.Errorf("Read(%d) = %q, error %d, want %q", i, got, err, want)
	}
}

// P10.3: the document's example.
func TestExample(t *testing.T) {
	d, err := disk.New(2)
	refused(t, "New", err, api.OK)
	refused(t, "Write", d.Write(0, "a"), api.OK)
	refused(t, "Write", d.Write(1, "b"), api.OK)
	refused(t, "Crash", d.Crash([]int{1}), api.OK)
	has(t, d, 1, "b")
	has(t, d, 0, "")
	if image := d.Image(); !slices.Equal(image, []string{blank, padded("b")}) {
		t.Errorf("Image %q", image)
	}
}

// P10.1: how many sectors a disk may have.
func TestSizes(t *testing.T) {
	for _, n := range []int{1, 2, 3, 65535, 65536} {
		d, err := disk.New(n)
		if d == nil || err != api.OK || d.Size() != n || len(d.Image()) != n {
			t.Fatalf("New(%d): error %d, Size %d", n, err, d.Size())
		}
		has(t, d, 0, "")
		has(t, d, n-1, "")
		refused(t, "Write to the last one", d.Write(n-1, "last"), api.OK)
		refused(t, "Write beyond the last one", d.Write(n, "more"), api.ErrRange)
		refused(t, "Barrier", d.Barrier(), api.OK)
		if image := d.Image(); image[n-1] != padded("last") || strings.Trim(strings.Join(image[:n-1], ""), "\x00") != "" {
			t.Errorf("of %d sectors: one write, and the last one has %q", n, image[n-1])
		}
	}
	for _, n := range []int{0, -1, -2, 65537, 65538, 1 << 32, 1<<32 + 1, math.MinInt, math.MaxInt} {
		if d, err := disk.New(n); d != nil || err != api.ErrRange {
			t.Errorf("New(%d) = %v, error %d", n, d, err)
		}
	}
}

// P10.1: a new disk consists of zero bytes, waits for nothing, and has no fuse.
func TestNewDisk(t *testing.T) {
	b := begin(t, 3)
	for range 40 {
		b.write(1, "w")
		b.barrier()
	}
}

// P10.2: a sector's number at its edges.
func TestSectorNumbers(t *testing.T) {
	for _, n := range []int{1, 2, 5} {
		b := begin(t, n)
		for _, i := range []int{math.MinInt, -1 << 32, -2, -1, n, n + 1, 1 << 32, math.MaxInt} {
			b.write(i, "none")
			if got, err := b.disk.Read(i); got != "" || err != api.ErrRange {
				t.Errorf("of %d sectors: Read(%d) = %q, error %d", n, i, got, err)
			}
		}
		for i := range n {
			b.write(i, "some"+strings.Repeat("x", i))
		}
		b.barrier()
	}
}

// texts are texts of the lengths that matter, with bytes 0 and bytes above 127.
func texts() []string {
	odd := strings.Repeat("\x00\xffa\x80\xc3", 30)
	list := []string{"", "a", "\x00", "\xff", "\x00a", "a\x00", blank, strings.Repeat("\xff", size)}
	for _, n := range []int{2, 3, 126, 127, 128} {
		list = append(list, odd[:n], odd[1:n+1])
	}
	return list
}

// P10.2: texts are padded with zero bytes, also where a longer one stood, and they remain.
func TestTexts(t *testing.T) {
	full := strings.Repeat("f", size)
	for _, text := range texts() {
		b := begin(t, 2)
		for _, barrier := range []bool{false, true} {
			for i := range 2 {
				b.write(i, full)
				if barrier {
					b.barrier()
				}
				b.write(i, text)
				has(t, b.disk, i, text)
			}
		}
		b.barrier()
		has(t, b.disk, 0, text)
		b.crash()
		has(t, b.disk, 1, text)
	}
}

// P10.2: a text that is too long is refused, whatever it has, and no part of it is written.
func TestTooLong(t *testing.T) {
	for _, n := range []int{129, 130, 256, 1 << 16} {
		for _, char := range []string{"\x00", "l", "\xff"} {
			b := begin(t, 2)
			b.write(1, "old")
			refused(t, "129 bytes and more", b.disk.Write(1, strings.Repeat(char, n)), api.ErrLong)
			b.agree("a text too long")
		}
	}
}

// P10.2: what a sector has is the last of several writes, whether they wait or not.
func TestSeveralWritesToOneSector(t *testing.T) {
	b := begin(t, 3)
	for _, text := range []string{"one", "two", "", "three"} {
		b.write(1, text)
		has(t, b.disk, 1, text)
	}
	b.write(2, "other")
	has(t, b.disk, 1, "three")
	b.write(1, "four")
	has(t, b.disk, 1, "four")
	has(t, b.disk, 2, "other")
	b.barrier()
	has(t, b.disk, 1, "four")
	b.write(1, "five")
	b.write(1, "six")
	b.crash()
	has(t, b.disk, 1, "four")
}

// P10.2: a barrier with nothing that waits is done, and counted.
func TestBarrierOfNothing(t *testing.T) {
	b := begin(t, 1)
	b.barrier()
	b.barrier()
	b.write(0, "a")
	b.barrier()
	b.barrier()
	if writes, barriers := b.disk.Count(); writes != 1 || barriers != 4 {
		t.Errorf("Count %d, %d", writes, barriers)
	}
}

// P10.4: Image is what is persisted alone; Waiting counts each write, also those to one sector.
func TestImageAndWaiting(t *testing.T) {
	b := begin(t, 2)
	for n := range 5 {
		b.write(0, "w")
		if got := b.disk.Waiting(); got != n+1 {
			t.Errorf("behind %d writes: Waiting %d", n+1, got)
		}
	}
	if image := b.disk.Image(); !slices.Equal(image, []string{blank, blank}) {
		t.Errorf("ahead of the barrier: Image %q", image)
	}
	b.barrier()
	if image := b.disk.Image(); !slices.Equal(image, []string{padded("w"), blank}) {
		t.Errorf("behind the barrier: Image %q", image)
	}
}

// P10.4: what a disk tells is in new memory, and what it is given is its own.
func TestNewMemory(t *testing.T) {
	b := begin(t, 2)
	b.write(0, "a")
	b.barrier()
	b.write(1, "b")
	b.write(0, "c")
	image := b.disk.Image()
	image[0], image[1] = "x", "y"
	b.agree("an image was written to")
	image = b.disk.Image()
	read, _ := b.disk.Read(1)
	keep := []int{1, 0, 1, -1, 7}
	refused(t, "Crash", b.disk.Crash(keep), b.model.crash(keep))
	b.agree("Crash")
	if !slices.Equal(keep, []int{1, 0, 1, -1, 7}) {
		t.Errorf("keep is %v now", keep)
	}
	keep[0], keep[1] = 5, 5
	b.write(1, "z")
	b.barrier()
	if read != padded("b") || !slices.Equal(image, []string{padded("a"), blank}) {
		t.Errorf("what was told earlier is %q and %q now", read, image)
	}
}

// P10.2, P10.3: two disks know nothing of each other.
func TestDisksAreTheirOwn(t *testing.T) {
	one, two := begin(t, 2), begin(t, 2)
	one.write(0, "one")
	one.barrier()
	one.arm(1)
	one.write(1, "pending")
	two.agree("another disk was written to")
	one.barrier()
	two.write(0, "two")
	one.crash(0)
	two.barrier()
	one.agree("another disk was written to")
}

// P10.4: a nil disk, and one that New did not make.
func TestNoDisk(t *testing.T) {
	for _, d := range []*disk.Disk{nil, {}, new(disk.Disk)} {
		for _, n := range []int{math.MinInt, -1, 0, 1, 2, math.MaxInt} {
			if got, err := d.Read(n); got != "" || err != api.ErrNil {
				t.Errorf("Read(%d) = %q, error %d", n, got, err)
			}
			for _, text := range []string{"", "a", strings.Repeat("l", size+1)} {
				refused(t, "Write", d.Write(n, text), api.ErrNil)
			}
			refused(t, "Arm", d.Arm(n), api.ErrNil)
			refused(t, "Barrier", d.Barrier(), api.ErrNil)
			refused(t, "Crash", d.Crash([]int{n, 0}), api.ErrNil)
		}
		refused(t, "Crash", d.Crash(nil), api.ErrNil)
		writes, barriers := d.Count()
		if d.Size() != 0 || d.Dead() || d.Waiting() != 0 || writes != 0 || barriers != 0 || len(d.Image()) != 0 {
			t.Errorf("Size %d, Dead %v, Waiting %d, Count %d, %d, Image %q", d.Size(), d.Dead(), d.Waiting(), writes, barriers, d.Image())
		}
	}
}
