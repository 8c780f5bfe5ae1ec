package image_test

import (
	"math/rand"
	"slices"
	"strings"
	"testing"

	"posthouse/api"
	"posthouse/disk"
	"posthouse/image"
)

// is tells whether Read finds in these sectors, which are an area in the midst of others, what the document says: a text, or none.
func is(t *testing.T, name string, area []string) (found bool) {
	t.Helper()
	all := junk(len(area) + 3)
	want, why := "", api.ErrForm
	if s, is := stored(area); is {
		want, why = s, api.OK
	}
	d := newDisk(t, with(all, 2, area))
	reads(t, name, d, 2, len(area), want, why)
	return why == api.OK
}

// isText finds a text in an area.
func isText(t *testing.T, name string, area []string) {
	t.Helper()
	if !is(t, name, area) {
		t.Errorf("%s: no text, by the document's words", name)
	}
}

// isNone finds none in an area.
func isNone(t *testing.T, name string, area []string) {
	t.Helper()
	if is(t, name, area) {
		t.Errorf("%s: a text, by the document's words", name)
	}
}

// P14.3: blank sectors are the empty text, whose length and checksum are 0; what is behind the first one does not count.
func TestReadBlank(t *testing.T) {
	isText(t, "one", []string{blank})
	isText(t, "three", []string{blank, blank, blank})
	isText(t, "others behind", []string{blank, "x" + blank[1:], "y" + blank[1:]})
	d, _ := disk.New(3)
	reads(t, "a new disk", d, 0, 3, "", api.OK)
	isNone(t, "one byte of one", []string{blank[:127] + "\x01"})
	isNone(t, "a checksum", raw(0, 1, ""))
	isNone(t, "no checksum of the length 1", raw(1, 0, "\x00"))
	isText(t, "a zero byte", wire("\x00"))
}

// P14.3: sectors that hold something else.
func TestReadJunk(t *testing.T) {
	for n := 1; n < 9; n++ {
		isNone(t, "junk", junk(n))
	}
	isNone(t, "bytes 255", slices.Repeat([]string{strings.Repeat("\xff", size)}, 9))
}

// P14.3: a length that is above the limit, though the area holds so many bytes and the checksum is theirs.
func TestReadTooLong(t *testing.T) {
	at := text("s", longest)
	area := append(wire(at), blank, blank, blank)
	d := newDisk(t, area)
	reads(t, "the limit", d, 0, len(area), at, api.OK)
	reads(t, "the limit, a sector fewer", d, 0, takes(longest)-1, "", api.ErrForm)
	for _, n := range []int{longest + 1, longest + 4, longest + size} {
		longer := text("s", n)
		reads(t, "above the limit", newDisk(t, with(area, 0, wire(longer))), 0, len(area), "", api.ErrForm)
	}
	for _, length := range []uint32{longest + 1, 1 << 24, 1 << 31, 1<<31 + 5, 1<<32 - 1, 1<<32 - 8, 1<<32 - 9} {
		isNone(t, "far above the limit", raw(length, check("a"), "a"))
		isNone(t, "far above the limit", raw(length, 0, ""))
	}
}

// P14.3: a length that takes as many sectors as there are, and one that takes more.
func TestReadCount(t *testing.T) {
	for _, n := range lengths {
		s := text("s", n)
		area := append(wire(s), junk(3)...)
		d := newDisk(t, area)
		for count := 1; count <= len(area); count++ {
			if count < takes(n) {
				reads(t, "too few", d, 0, count, "", api.ErrForm)
			} else {
				reads(t, "enough", d, 0, count, s, api.OK)
			}
		}
	}
	// The length says more than is written, and the sectors behind it would be the text's.
	isNone(t, "a sector too few", raw(121, check(text("s", 120)+"\x00"), text("s", 120)))
	isText(t, "a sector more", append(raw(121, check(text("s", 120)+"\x00"), text("s", 120)), blank))
}

// P14.3: a checksum that differs in any bit, or that is another text's.
func TestReadSum(t *testing.T) {
	for _, n := range lengths {
		s := text("s", n)
		for bit := range 32 {
			isNone(t, "a wrong checksum", raw(uint32(n), check(s)^1<<bit, s))
		}
		isText(t, "the right one", raw(uint32(n), check(s), s))
	}
	isNone(t, "of another text", raw(3, check("abd"), "abc"))
	isNone(t, "of the padded text", raw(3, check("abc\x00"), "abc"))
	isNone(t, "of a longer text", raw(3, check("abcd"), "abc"))
}

// P14.3: each bit of the text's own bytes, and each of those behind it in its last sector.
func TestReadEachBit(t *testing.T) {
	for _, n := range []int{0, 1, 2, 3, 4, 5, 119, 120, 121, 125, 248, 250} {
		area := wire(text("s", n))
		for i := range len(area) * size {
			for bit := range 8 {
				all := []byte(strings.Join(area, ""))
				all[i] ^= 1 << bit
				var changed []string
				for part := range slices.Chunk(all, size) {
					changed = append(changed, string(part))
				}
				// A length that has one bit more or fewer takes other bytes; by chance, their checksum might be right.
				if i < 4 {
					is(t, "a changed length", changed)
				} else {
					isNone(t, "a changed bit", changed)
				}
			}
		}
	}
}

// P14.3: bytes that pad the text, and those behind them in its last sector, are 0, though the checksum is right; those in the sectors that follow need not be.
func TestReadBehind(t *testing.T) {
	for _, n := range lengths {
		s := text("s", n)
		for i := n; (i+8)/size < takes(n); i++ {
			for _, b := range []string{"\x01", "\x80", "\xff"} {
				isNone(t, "a byte behind", raw(uint32(n), check(s), s+strings.Repeat("\x00", i-n)+b))
			}
		}
		isText(t, "others behind", append(wire(s), junk(2)...))
		isText(t, "blank behind", append(wire(s), blank, blank))
		isText(t, "the same behind", append(wire(s), wire(s)...))
	}
}

// P14.3: the first error of several: no disk, then the area, then the disk, then what is there.
func TestReadErrors(t *testing.T) {
	all := append(junk(1), wire("text")...)
	cases := []struct {
		name        string
		from, count int
		s           string
		want        api.Errno
	}{
		{"one sector beyond", 1, 2, "", api.ErrRange},
		{"behind the disk", 2, 1, "", api.ErrRange},
		{"no sector", 0, 0, "", api.ErrRange},
		{"below 0", -1, 2, "", api.ErrRange},
		{"no text", 0, 2, "", api.ErrForm},
		{"a text", 1, 1, "text", api.OK},
	}
	for _, c := range cases {
		reads(t, c.name, nil, c.from, c.count, "", api.ErrNil)
		reads(t, c.name, &disk.Disk{}, c.from, c.count, "", api.ErrRange)
		reads(t, c.name, newDisk(t, all), c.from, c.count, c.s, c.want)
		if c.want == api.ErrRange {
			reads(t, c.name, failed(t, all), c.from, c.count, "", api.ErrRange)
		} else {
			reads(t, c.name, failed(t, all), c.from, c.count, "", api.ErrDown)
		}
	}
}

// P14.3: Read writes nothing, and uses up no fuse.
func TestReadOnlyReads(t *testing.T) {
	d := newDisk(t, wire(text("s", 300)))
	count, barriers := d.Count()
	d.Arm(0)
	reads(t, "a fuse of 0", d, 0, 3, text("s", 300), api.OK)
	reads(t, "a fuse of 0", d, 1, 2, "", api.ErrForm)
	if w, b := d.Count(); w != count || b != barriers || d.Waiting() != 0 || d.Dead() {
		t.Errorf("after Read: %d writes, %d barriers, %d waiting, failed %v", w, b, d.Waiting(), d.Dead())
	}
}

// P14.3: what was pending counts as it does for the disk.
func TestReadPending(t *testing.T) {
	s, elder := text("s", 300), text("e", 300)
	for set := range 8 {
		area := wire(elder)
		d := newDisk(t, area)
		for i, part := range wire(s) {
			if set&(1<<i) != 0 {
				d.Write(i, part)
				area[i] = part
			}
		}
		want, why := "", api.ErrForm
		if s, is := stored(area); is {
			want, why = s, api.OK
		}
		reads(t, "pending", d, 0, 3, want, why)
	}
}

// P14.3: areas of few different sectors, at random: a text is found where the document says that there is one, and no other.
func TestReadRandom(t *testing.T) {
	chance := rand.New(rand.NewSource(1))
	count := map[bool]int{}
	for range 20000 {
		// Texts of which most have parts in common.
		var pool []string
		for _, n := range []int{0, 5, 130, 300, 301, 600} {
			pool = append(pool, wire(strings.Repeat("a", n))...)
			pool = append(pool, wire(strings.Repeat("\x00", n))...)
		}
		area := make([]string, 1+chance.Intn(5))
		for i := range area {
			area[i] = pool[chance.Intn(len(pool))]
		}
		count[is(t, "at random", area)]++
	}
	if count[true] < 1000 || count[false] < 1000 {
		t.Errorf("texts and none: %v", count)
	}
}

// P14.4: what is written is read back, with any bytes, after a barrier and a crash, too.
func TestThereAndBack(t *testing.T) {
	chance := rand.New(rand.NewSource(2))
	for range 2000 {
		b := make([]byte, chance.Intn(700))
		chance.Read(b)
		s := string(b)
		from, more := chance.Intn(4), chance.Intn(3)
		all := junk(20)
		d := newDisk(t, all)
		count := image.Sectors(len(s)) + more
		writes(t, "any bytes", d, from, count, s, api.OK)
		reads(t, "at once", d, from, count, s, api.OK)
		if chance.Intn(2) == 0 {
			d.Barrier()
			d.Crash(nil)
		} else {
			d.Crash(kept(-1, d.Waiting()))
		}
		reads(t, "after a crash", d, from, count, s, api.OK)
		holds(t, "after a crash", d, with(all, from, wire(s)))
	}
}
