package piece_test

import (
	"math/rand"
	"strings"
	"testing"

	"posthouse/api"
	"posthouse/piece"
)

// some is pieces of several shapes.
func some() []api.Piece {
	return []api.Piece{
		{Epoch: 1, Seq: 1, Part: 0, Parts: 1},
		{Epoch: 1, Seq: 1, Part: 0, Parts: 1, Data: "data"},
		{Epoch: high, Seq: 1 << 40, Part: 0, Parts: 2, Data: filled(room)},
		{Epoch: 7, Seq: 300, Part: 63, Parts: 64, Data: filled(99)},
	}
}

// P11.1: bytes that are missing, or too many, though the checksum fits.
func TestSizes(t *testing.T) {
	for _, p := range some() {
		bytes := bytesOf(p)
		for n := range whole {
			fails(t, "cut", bytes[:n])
			fails(t, "cut in front", bytes[n+1:])
			fails(t, "more", bytes+bytes[:n+1])
			if n >= 4 {
				fails(t, "cut, with a checksum of its own", summed(bytes[:n-4]))
			}
		}
		for _, more := range []string{"\x00", "\xff", "\x00\x00\x00\x00"} {
			fails(t, "more behind", bytes+more)
			fails(t, "more in front", more+bytes)
			fails(t, "more padding, with a checksum of its own", summed(bytes[:whole-4]+more))
		}
	}
	fails(t, "very many", strings.Repeat("\x01", 1<<20))
}

// P11.1: each byte replaced by any other one.
func TestEachByteReplaced(t *testing.T) {
	for _, p := range some() {
		bytes := []byte(bytesOf(p))
		for i, right := range bytes {
			for n := 1; n < 256; n++ {
				bytes[i] = right + byte(n)
				fails(t, "a byte replaced", string(bytes))
			}
			bytes[i] = right
		}
	}
}

// read is the piece that 124 bytes have ahead of their checksum, and whether that piece has these bytes, by the document's words.
func read(s string) (api.Piece, bool) {
	at := func(from, size int) (n int) {
		for i := range size {
			n = n<<8 | int(s[from+i])
		}
		return n
	}
	size := at(20, 4)
	if size > room {
		return api.Piece{}, false
	}
	p := api.Piece{Epoch: at(0, 4), Seq: at(4, 8), Part: at(12, 4), Parts: at(16, 4), Data: s[front : front+size]}
	return p, valid(p) && strings.Trim(s[front+size:front+room], "\x00") == ""
}

// meant tells whether 124 bytes with their checksum are read as the document says, and whether they are a piece's.
func meant(t *testing.T, s string) bool {
	t.Helper()
	p, is := read(s)
	if !is {
		fails(t, "no piece", summed(s))
		return false
	}
	if got, err := piece.Get(summed(s)); got != p || err != api.OK {
		t.Errorf("Get(%x) = %+v, error %d, want %+v", summed(s), got, err, p)
	}
	holds(t, p)
	return true
}

// P11.1, P11.4: each byte replaced, with a checksum that fits: what is read then, if anything.
func TestEachByteReplacedAndSummed(t *testing.T) {
	count := [2]int{}
	for _, p := range some() {
		bytes := []byte(bytesOf(p)[:whole-4])
		for i, right := range bytes {
			for _, n := range []byte{1, 2, 3, 4, 63, 64, 65, 99, 100, 127, 128, 129, 192, 255} {
				bytes[i] = right + n
				if meant(t, string(bytes)) {
					count[1]++
				} else {
					count[0]++
				}
			}
			bytes[i] = right
		}
	}
	if count[0] < 500 || count[1] < 500 {
		t.Errorf("%v bytes of no piece, and of one", count)
	}
}

// P11.1: a length that is another one, though all else fits.
func TestOtherLengths(t *testing.T) {
	for _, p := range some() {
		bytes := bytesOf(p)
		for _, n := range []int{101, 102, 104, 107, 108, 127, 128, 255, 256, 1 << 16, 1 << 24, 1<<31 - 1, 1 << 31, high} {
			fails(t, "a length above 100", summed(bytes[:20]+big(n, 4)+bytes[front:whole-4]))
		}
		for n := range room + 1 {
			meant(t, bytes[:20]+big(n, 4)+bytes[front:whole-4])
		}
	}
}

// P11.1: padding that is not zero, though the checksum fits.
func TestPadding(t *testing.T) {
	for _, size := range []int{0, 1, 3, 4, 97, 98, 99} {
		bytes := bytesOf(api.Piece{Epoch: 1, Seq: 1, Part: 0, Parts: 1, Data: filled(size)})[:whole-4]
		for i := front + size; i < len(bytes); i++ {
			for _, char := range []string{"\x01", "\x80", "\xff"} {
				fails(t, "padding", summed(bytes[:i]+char+bytes[i+1:]))
			}
		}
	}
}

// P11.1: a checksum of other bytes.
func TestOtherChecksums(t *testing.T) {
	for _, p := range some() {
		for _, q := range some() {
			bytes, other := bytesOf(p), bytesOf(q)
			if p != q {
				fails(t, "another piece's checksum", bytes[:whole-4]+other[whole-4:])
			}
		}
		bytes := bytesOf(p)
		rest, sum := bytes[:whole-4], bytes[whole-4:]
		fails(t, "no checksum", rest+"\x00\x00\x00\x00")
		fails(t, "its bytes backward", rest+string([]byte{sum[3], sum[2], sum[1], sum[0]}))
		fails(t, "its bits inverted", rest+string([]byte{^sum[0], ^sum[1], ^sum[2], ^sum[3]}))
		fails(t, "that of the data", rest+sumOf(rest[front:]))
		fails(t, "that of the numbers", rest+sumOf(rest[:front]))
		if len(p.Data) < room {
			fails(t, "that of all but the padding", rest+sumOf(rest[:front+len(p.Data)]))
		}
	}
}

// P11.1: numbers that no valid piece has, with a checksum that fits.
func TestOtherNumbers(t *testing.T) {
	data := filled(room)
	for _, numbers := range []string{
		big(0, 4) + big(1, 8) + big(0, 4) + big(1, 4),
		big(1, 4) + big(0, 8) + big(0, 4) + big(1, 4),
		big(1, 4) + "\x80\x00\x00\x00\x00\x00\x00\x01" + big(0, 4) + big(1, 4),
		big(1, 4) + strings.Repeat("\xff", 8) + big(0, 4) + big(1, 4),
		big(1, 4) + big(1, 8) + big(0, 4) + big(0, 4),
		big(1, 4) + big(1, 8) + big(1, 4) + big(1, 4),
		big(1, 4) + big(1, 8) + big(high, 4) + big(1, 4),
		big(1, 4) + big(1, 8) + big(64, 4) + big(64, 4),
		big(1, 4) + big(1, 8) + big(0, 4) + big(65, 4),
		big(1, 4) + big(1, 8) + big(64, 4) + big(65, 4),
		big(1, 4) + big(1, 8) + big(0, 4) + big(high, 4),
		big(1, 4) + big(1, 8) + big(high, 4) + big(high, 4),
	} {
		fails(t, "other numbers", summed(numbers+big(room, 4)+data))
	}
	if !meant(t, big(1, 4)+big(1, 8)+big(0, 4)+big(1, 4)+big(room, 4)+data) {
		t.Error("the right numbers are refused")
	}
}

// P11.1, P11.4: any bytes, with a checksum that fits and without.
func TestAnyBytes(t *testing.T) {
	chance := rand.New(rand.NewSource(1))
	count := 0
	for range 100000 {
		numbers := big(chance.Intn(3), 4) + big(chance.Intn(3), 8) + big(chance.Intn(4), 4) + big(chance.Intn(4), 4) + big(chance.Intn(4)*chance.Intn(40), 4)
		data := make([]byte, room)
		for i := range chance.Intn(room + 1) {
			data[i] = byte(chance.Intn(256))
		}
		if meant(t, numbers+string(data)) {
			count++
		}
		any := make([]byte, whole-chance.Intn(2)*chance.Intn(whole))
		for i := range any {
			any[i] = byte(chance.Intn(256)) >> chance.Intn(9)
		}
		if summed(string(any[:max(0, len(any)-4)])) != string(any) {
			fails(t, "any bytes", string(any))
		}
	}
	if count < 1000 {
		t.Errorf("%d bytes were those of a piece", count)
	}
}
