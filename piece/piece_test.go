package piece_test

import (
	"hash/crc32"
	"math"
	"strings"
	"testing"

	"posthouse/api"
	"posthouse/piece"
)

// high is the highest 32-bit number.
const high = 1<<32 - 1

// The document's numbers: bytes of a piece, of its data, and of what is ahead of them; pieces and bytes of a record.
const (
	whole   = 128
	room    = 100
	front   = 24
	most    = 64
	longest = 6400
)

// filled is text of n bytes that differ from place to place, bytes 0 and bytes above 127 among them.
func filled(n int) string {
	bytes := make([]byte, n)
	for i := range bytes {
		bytes[i] = byte(i*7 + i/256)
	}
	return string(bytes)
}

// big is a number's bytes, the most significant first.
func big(n, size int) string {
	bytes := make([]byte, size)
	for i := range bytes {
		bytes[i] = byte(n >> (8 * (size - 1 - i)))
	}
	return string(bytes)
}

// sumOf is a checksum's bytes.
func sumOf(s string) string {
	return big(int(crc32.Checksum([]byte(s), crc32.MakeTable(crc32.Castagnoli))), 4)
}

// summed is bytes with their checksum behind them.
func summed(s string) string {
	return s + sumOf(s)
}

// bytesOf is a piece's bytes by the document's words, also where the piece is not valid but has at most 100 bytes of data.
func bytesOf(p api.Piece) string {
	return summed(big(p.Epoch, 4) + big(p.Seq, 8) + big(p.Part, 4) + big(p.Parts, 4) + big(len(p.Data), 4) + p.Data + strings.Repeat("\x00", room-len(p.Data)))
}

// valid tells by the document's words whether a piece is valid.
func valid(p api.Piece) bool {
	if p.Epoch < 1 || p.Epoch > high || p.Seq < 1 || p.Parts < 1 || p.Parts > most || p.Part < 0 || p.Part > p.Parts-1 {
		return false
	}
	n := len(p.Data)
	return n == room || p.Part == p.Parts-1 && n >= 1 && n <= room || p.Parts == 1 && n <= room
}

// holds tells whether a piece is valid, has its bytes, and is what these bytes are read as.
func holds(t *testing.T, p api.Piece) {
	t.Helper()
	if err := piece.Check(p); err != api.OK {
		t.Errorf("Check(%+v) = %d", p, err)
	}
	want := bytesOf(p)
	if got, err := piece.Put(p); got != want || err != api.OK {
		t.Errorf("Put(%+v) = %x, error %d, want %x", p, got, err, want)
	}
	if got, err := piece.Get(want); got != p || err != api.OK {
		t.Errorf("Get(%x) = %+v, error %d, want %+v", want, got, err, p)
	}
}

// refused tells whether a piece is refused, and has no bytes.
func refused(t *testing.T, p api.Piece) {
	t.Helper()
	if err := piece.Check(p); err != api.ErrForm {
		t.Errorf("Check(%+v) = %d", p, err)
	}
	if got, err := piece.Put(p); got != "" || err != api.ErrForm {
		t.Errorf("Put(%+v) = %x, error %d", p, got, err)
	}
}

// fails tells whether bytes are those of no piece.
func fails(t *testing.T, name, bytes string) {
	t.Helper()
	if got, err := piece.Get(bytes); got != (api.Piece{}) || err != api.ErrForm {
		t.Errorf("%s: Get(%x) = %+v, error %d", name, bytes, got, err)
	}
}

// judged tells whether a piece is taken or refused as the document says.
func judged(t *testing.T, p api.Piece) {
	t.Helper()
	if valid(p) {
		holds(t, p)
		return
	}
	refused(t, p)
	if len(p.Data) <= room {
		// Numbers that do not fit lose bits here, so that now and then these are another piece's bytes.
		meant(t, bytesOf(p)[:whole-4])
	}
}

// P11.1: a piece's bytes, written out.
func TestBytesOfOne(t *testing.T) {
	p := api.Piece{Epoch: 0xf1f2f3f4, Seq: 0x0102030405060708, Part: 2, Parts: 3, Data: "data"}
	want := "\xf1\xf2\xf3\xf4" + "\x01\x02\x03\x04\x05\x06\x07\x08" + "\x00\x00\x00\x02" + "\x00\x00\x00\x03" + "\x00\x00\x00\x04" + "data" + strings.Repeat("\x00", 96)
	want = summed(want)
	if len(want) != whole || bytesOf(p) != want {
		t.Fatalf("%x", want)
	}
	holds(t, p)
}

// P11.1, P11.4: Epoch, Seq, Parts, Part and the length of Data at their edges, each alone.
func TestEdges(t *testing.T) {
	for _, n := range []int{math.MinInt, -1 << 32, -1, 0, 1, 2, 255, 256, 1<<31 - 1, 1 << 31, high - 1, high, high + 1, high + 2, 1<<33 + 1, math.MaxInt} {
		judged(t, api.Piece{Epoch: n, Seq: 1, Part: 0, Parts: 1, Data: "d"})
		judged(t, api.Piece{Epoch: 1, Seq: n, Part: 0, Parts: 1, Data: "d"})
	}
	for _, parts := range []int{math.MinInt, -1, 0, 1, 2, 3, 63, 64, 65, 66, 256, high, high + 1, high + 2, math.MaxInt} {
		for _, part := range []int{math.MinInt, -1, 0, 1, parts - 2, parts - 1, parts, parts + 1, 63, 64, high + 1, math.MaxInt} {
			for _, n := range []int{0, 1, 2, 50, 99, 100, 101, 128, 1000} {
				judged(t, api.Piece{Epoch: 1, Seq: 1, Part: part, Parts: parts, Data: filled(n)})
			}
		}
	}
}

// P11.1: which lengths of Data there are in the first, in the last and in the only piece.
func TestLengths(t *testing.T) {
	lengths := []int{0, 1, 2, 99, 100, 101}
	for _, c := range []struct {
		part, parts int
		fine        []bool
	}{
		{0, 1, []bool{true, true, true, true, true, false}},
		{0, 2, []bool{false, false, false, false, true, false}},
		{1, 2, []bool{false, true, true, true, true, false}},
		{0, 64, []bool{false, false, false, false, true, false}},
		{62, 64, []bool{false, false, false, false, true, false}},
		{63, 64, []bool{false, true, true, true, true, false}},
	} {
		for i, n := range lengths {
			p := api.Piece{Epoch: high, Seq: math.MaxInt, Part: c.part, Parts: c.parts, Data: filled(n)}
			if c.fine[i] {
				holds(t, p)
			} else {
				refused(t, p)
			}
		}
	}
}

// P11.1: data of any bytes, zero bytes at its end among them, is told apart from the padding.
func TestData(t *testing.T) {
	for _, data := range []string{"", "\x00", "\x00\x00\x00\x00", "a\x00", "\xff\xfe\x80", "abc", "abcd", "abcde", strings.Repeat("\x00", 99), strings.Repeat("\x00", 100), strings.Repeat("\xff", 100)} {
		holds(t, api.Piece{Epoch: 3, Seq: 4, Part: 0, Parts: 1, Data: data})
	}
}

// P11.1: the zero piece is none.
func TestZeroPiece(t *testing.T) {
	refused(t, api.Piece{})
	fails(t, "zero bytes", strings.Repeat("\x00", whole))
	fails(t, "zero bytes with their checksum", summed(strings.Repeat("\x00", whole-4)))
}
