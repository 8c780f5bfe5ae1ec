package head_test

import (
	"math"
	"math/rand"
	"slices"
	"strings"
	"testing"

	"posthouse/api"
	"posthouse/head"
)

// agrees tells whether Check, Put and Get are of one mind on a header, which is valid or not.
func agrees(t *testing.T, h api.Head, may bool) {
	t.Helper()
	want, why := "", api.ErrForm
	if may {
		want, why = wire(t, h), api.OK
	}
	if err := head.Check(h); err != why {
		t.Errorf("Check(%+v) = %d, want %d", h, err, why)
	}
	if s, err := head.Put(h); s != want || err != why {
		t.Errorf("Put(%+v) = %q, error %d, want %q, error %d", h, s, err, want, why)
	}
	if may {
		is(t, "a header's bytes", want, h)
	}
}

// P13.1: each number at its edges and beyond them, all others being ordinary.
func TestEachEdge(t *testing.T) {
	cases := []struct {
		name      string
		set       func(h *api.Head, n int)
		good, bad []int
	}{
		{"Gen", func(h *api.Head, n int) { h.Gen = n }, []int{1, 2, high, 1 << 32, 1<<63 - 1}, []int{0, -1, math.MinInt}},
		{"Next", func(h *api.Head, n int) { h.Next = n }, []int{1, 2, high, 1 << 32, 1<<63 - 1}, []int{0, -1, math.MinInt}},
		{"Epoch", func(h *api.Head, n int) { h.Epoch, h.Since = n, 1 }, []int{1, 2, 1 << 31, high}, []int{0, -1, 1 << 32, 1<<32 + 1, math.MaxInt, math.MinInt}},
		{"Since", func(h *api.Head, n int) { h.Since = n }, []int{1, 2, 8, 9}, []int{0, -1, 10, 1<<32 + 1, math.MaxInt, math.MinInt}},
		{"Area", func(h *api.Head, n int) { h.Area = n }, []int{0, 1}, []int{-1, 2, 1 << 32, 1<<32 + 1, math.MaxInt, math.MinInt}},
		{"Size", func(h *api.Head, n int) { h.Size = n }, []int{0, 1, 1<<24 - 1, 1 << 24}, []int{-1, 1<<24 + 1, 1 << 32, math.MaxInt, math.MinInt}},
		{"Pos", func(h *api.Head, n int) { h.Pos = n }, []int{0, 1, 65534, 65535}, []int{-1, 65536, 1 << 32, math.MaxInt, math.MinInt}},
		{"both epochs", func(h *api.Head, n int) { h.Epoch, h.Since = n, n }, []int{1, 2, high}, []int{0, -1, 1 << 32, math.MaxInt, math.MinInt}},
	}
	for _, c := range cases {
		for _, n := range slices.Concat(c.good, c.bad) {
			h := ordinary(5)
			c.set(&h, n)
			agrees(t, h, slices.Contains(c.good, n))
		}
	}
}

// P13.1: all edges together: one number that may not be is enough.
func TestAllEdges(t *testing.T) {
	count := map[bool]int{}
	for _, n := range []api.Head{{Gen: 0, Next: 1}, {Gen: 1, Next: 0}, {Gen: 1, Next: math.MaxInt}, {Gen: math.MaxInt, Next: 1}} {
		for _, epoch := range []int{0, 1, 2, high, high + 1} {
			for _, since := range []int{0, 1, 2, epoch - 1, epoch, epoch + 1} {
				for area := -1; area <= 2; area++ {
					for _, bytes := range []int{-1, 0, largest, largest + 1} {
						for _, pos := range []int{-1, 0, last, last + 1} {
							h := api.Head{Gen: n.Gen, Epoch: epoch, Since: since, Area: area, Size: bytes, Next: n.Next, Pos: pos}
							agrees(t, h, valid(h))
							count[valid(h)]++
						}
					}
				}
			}
		}
	}
	if count[true] < 100 || count[false] < 1000 {
		t.Errorf("valid and not: %v", count)
	}
}

// P13.1: the zero header is not valid.
func TestZeroHead(t *testing.T) {
	agrees(t, api.Head{}, false)
}

// P13.1: the bytes of a header, spelt out.
func TestBytes(t *testing.T) {
	cases := []struct {
		h    api.Head
		want string
	}{
		{api.Head{Gen: 1, Epoch: 1, Since: 1, Next: 1}, "PHD1" + "\x00\x00\x00\x00\x00\x00\x00\x01" + "\x00\x00\x00\x01" + "\x00\x00\x00\x01" + "\x00\x00\x00\x00" + "\x00\x00\x00\x00" +
			"\x00\x00\x00\x00\x00\x00\x00\x01" + "\x00\x00\x00\x00" + "\xc1\x04\x62\xb4"},
		{api.Head{Gen: 0x0102030405060708, Epoch: 0xfffefdfc, Since: 0x11121314, Area: 1, Size: 0x212223, Next: 0x3132333435363738, Pos: 0x4142}, "PHD1" + "\x01\x02\x03\x04\x05\x06\x07\x08" + "\xff\xfe\xfd\xfc" + "\x11\x12\x13\x14" + "\x00\x00\x00\x01" + "\x00\x21\x22\x23" +
			"\x31\x32\x33\x34\x35\x36\x37\x38" + "\x00\x00\x41\x42" + "\x81\xa5\xfb\x86"},
		{api.Head{Gen: math.MaxInt, Epoch: high, Since: high, Area: 1, Size: largest, Next: math.MaxInt, Pos: last}, "PHD1" + "\x7f\xff\xff\xff\xff\xff\xff\xff" + "\xff\xff\xff\xff" + "\xff\xff\xff\xff" + "\x00\x00\x00\x01" + "\x01\x00\x00\x00" +
			"\x7f\xff\xff\xff\xff\xff\xff\xff" + "\x00\x00\xff\xff" + "\x71\x10\x5a\xe7"},
	}
	for _, c := range cases {
		want := c.want + strings.Repeat("\x00", 84)
		if len(want) != size {
			t.Fatalf("the bytes spelt out are %d", len(want))
		}
		if s, err := head.Put(c.h); s != want || err != api.OK {
			t.Errorf("Put(%+v) = %q, error %d, want %q", c.h, s, err, want)
		}
		is(t, "bytes spelt out", want, c.h)
	}
}

// anyHead is a valid header by chance.
func anyHead(chance *rand.Rand) api.Head {
	// Numbers of any number of bits, for all of them are as likely as one of a few.
	number := func(most int) int { return 1 + int(chance.Int63()>>chance.Intn(63))%most }
	epoch := number(high)
	return api.Head{Gen: number(math.MaxInt), Epoch: epoch, Since: number(epoch), Area: chance.Intn(2), Size: number(largest+1) - 1, Next: number(math.MaxInt), Pos: number(last+1) - 1}
}

// P13.1, P13.4: headers come back from their bytes.
func TestThereAndBack(t *testing.T) {
	chance := rand.New(rand.NewSource(1))
	for range 20000 {
		agrees(t, anyHead(chance), true)
	}
}

// P13.1: texts of any length but a sector's are no header's, whatever they begin with.
func TestLengths(t *testing.T) {
	s := wire(t, ordinary(5))
	for n := range size {
		none(t, "too short", s[:n])
	}
	for _, more := range []string{"\x00", "x", blank, s} {
		none(t, "too long", s+more)
	}
	none(t, "too long ahead", "\x00"+s)
	none(t, "blank", blank)
	none(t, "of one byte", strings.Repeat("\xff", size))
	none(t, "the mark alone", "PHD1"+blank[4:])
}

// P13.1: numbers that are not valid, under a right checksum.
func TestWrongNumbers(t *testing.T) {
	cases := []func(r *raw){
		func(r *raw) { r.Mark = 0 },
		func(r *raw) { r.Mark++ },
		func(r *raw) { r.Mark = 0x31444850 },
		func(r *raw) { r.Mark ^= 1 << 31 },
		func(r *raw) { r.Gen = 0 },
		func(r *raw) { r.Gen = 1 << 63 },
		func(r *raw) { r.Gen = 1<<64 - 1 },
		func(r *raw) { r.Epoch, r.Since = 0, 0 },
		func(r *raw) { r.Epoch = 3 },
		func(r *raw) { r.Since = 0 },
		func(r *raw) { r.Since = 10 },
		func(r *raw) { r.Since = high },
		func(r *raw) { r.Area = 2 },
		func(r *raw) { r.Area = high },
		func(r *raw) { r.Size = largest + 1 },
		func(r *raw) { r.Size = high },
		func(r *raw) { r.Next = 0 },
		func(r *raw) { r.Next = 1 << 63 },
		func(r *raw) { r.Next = 1<<64 - 1 },
		func(r *raw) { r.Pos = last + 1 },
		func(r *raw) { r.Pos = high },
	}
	for _, change := range cases {
		r := rawOf(ordinary(5))
		is(t, "as it was", r.wire(t), ordinary(5))
		change(&r)
		none(t, "a wrong number", r.wire(t))
	}
}

// P13.1: a checksum that differs in any bit, and one of more or fewer bytes.
func TestWrongSum(t *testing.T) {
	s := []byte(wire(t, ordinary(5)))
	for i := 40; i < 44; i++ {
		for bit := range 8 {
			s[i] ^= 1 << bit
			none(t, "a wrong checksum", string(s))
			s[i] ^= 1 << bit
		}
	}
	is(t, "as it was", string(s), ordinary(5))
	none(t, "no checksum", string(s[:40])+blank[40:])
	none(t, "the checksum later", string(s[:40])+"\x00\x00\x00\x00"+string(s[40:44])+blank[48:])
}

// P13.1: each byte behind the checksum is 0.
func TestBytesBehind(t *testing.T) {
	s := []byte(wire(t, ordinary(5)))
	for i := 44; i < size; i++ {
		for _, b := range []byte{1, 0x80, 0xff, ' '} {
			s[i] = b
			none(t, "a byte behind", string(s))
		}
		s[i] = 0
	}
	is(t, "as it was", string(s), ordinary(5))
}

// P13.4: each byte ahead of the checksum, and each two that follow one another, with all that may stand there instead.
func TestChangedBytes(t *testing.T) {
	h := ordinary(5)
	was := wire(t, h)
	s := []byte(was)
	for i := range 40 {
		for change := 1; change < 1<<16; change++ {
			// The second byte of a pair may be one of the checksum, which this does not speak of.
			if i == 39 && change > 255 {
				break
			}
			s[i], s[i+1] = was[i]^byte(change), was[i+1]^byte(change>>8)
			if _, err := head.Get(string(s)); err != api.ErrForm {
				t.Fatalf("bytes from %d on changed by %x: error %d", i, change, err)
			}
		}
		s[i], s[i+1] = was[i], was[i+1]
	}
	is(t, "as it was", string(s), h)
}

// P13.4: up to four bytes that follow one another ahead of the checksum, in many headers.
func TestChangedRuns(t *testing.T) {
	chance := rand.New(rand.NewSource(2))
	for range 200000 {
		s := []byte(wire(t, anyHead(chance)))
		n := 1 + chance.Intn(4)
		from := chance.Intn(40 - n + 1)
		was := string(s[from : from+n])
		for i := range n {
			s[from+i] = byte(chance.Intn(256))
		}
		if string(s[from:from+n]) != was {
			none(t, "a changed run", string(s))
		}
	}
}
