package node_test

import (
	"math"
	"math/rand"
	"testing"

	"posthouse/node"
)

// reads is the bytes that are read, one by one: those from the offset on, as long as there may be more; and whether none from there on is left.
func reads(data string, offset, count int) (string, bool) {
	text, end := "", true
	for i := range len(data) {
		switch {
		case i < offset:
		case len(text) < count && len(text) < mostRead:
			text += data[i : i+1]
		default:
			end = false
		}
	}
	return text, end
}

// P20.1: some readings, written out.
func TestRead(t *testing.T) {
	long := small(600)
	for _, c := range []struct {
		data          string
		offset, count int
		want          string
		end           bool
	}{
		{"x\x00ab", 3, 9, "b", true}, {"x\x00ab", 3, 1, "b", true}, {"x\x00ab", 2, 1, "a", false}, {"x\x00ab", 0, 2, "x\x00", false}, {"x\x00ab", 0, 4, "x\x00ab", true}, {"x\x00ab", 1, 3, "\x00ab", true},
		{"x\x00ab", 0, 0, "", false}, {"x\x00ab", 3, 0, "", false}, {"x\x00ab", 4, 0, "", true}, {"x\x00ab", 5, 0, "", true},
		{"x\x00ab", 4, 1, "", true}, {"x\x00ab", 5, 1, "", true}, {"x\x00ab", 1000000, 9, "", true}, {"x\x00ab", math.MaxInt, math.MaxInt, "", true},
		{"x\x00ab", -1, 1, "x", false}, {"x\x00ab", -1, 4, "x\x00ab", true}, {"x\x00ab", -4, 2, "x\x00", false}, {"x\x00ab", math.MinInt, 9, "x\x00ab", true},
		{"x\x00ab", 0, -1, "", false}, {"x\x00ab", 3, -1, "", false}, {"x\x00ab", 4, -1, "", true}, {"x\x00ab", -1, -1, "", false}, {"x\x00ab", 0, math.MinInt, "", false}, {"x\x00ab", math.MinInt, math.MinInt, "", false}, {"x\x00ab", math.MaxInt, math.MinInt, "", true},
		{"", 0, 0, "", true}, {"", 0, 1, "", true}, {"", -1, -1, "", true}, {"", 1, 1, "", true}, {"", math.MinInt, math.MaxInt, "", true},
		{long, 0, 255, long[:255], false}, {long, 0, 256, long[:256], false}, {long, 0, 257, long[:256], false}, {long, 0, math.MaxInt, long[:256], false},
		{long, 343, 1000, long[343:599], false}, {long, 344, 1000, long[344:], true}, {long, 344, 256, long[344:], true}, {long, 344, 255, long[344:599], false}, {long, 345, 255, long[345:], true}, {long, 599, math.MaxInt, long[599:], true}, {long, 600, math.MaxInt, "", true},
		{long[:256], 0, 256, long[:256], true}, {long[:256], 0, 300, long[:256], true}, {long[:256], -1, 256, long[:256], true}, {long[:257], 0, 257, long[:256], false}, {long[:257], 1, 257, long[1:257], true}, {long[:255], 0, 256, long[:255], true},
	} {
		if got, end := node.Read(c.data, c.offset, c.count); got != c.want || end != c.end {
			t.Errorf("Read of %d bytes, %d, %d: %q, %v, want %q, %v", len(c.data), c.offset, c.count, got, end, c.want, c.end)
		}
	}
}

// P20.1: data of many lengths, up to some that are longer than a file may be, with offsets and counts at all edges.
func TestReadAtEdges(t *testing.T) {
	for _, n := range []int{0, 1, 2, 3, 254, 255, 256, 257, 258, 511, 512, 513, 1023, 1024, 1025, 3000} {
		data := small(n)
		for _, offset := range around(1, n/2, n-mostRead, n, mostRead, mostFile) {
			for _, count := range around(1, n/2, n, n-offset, mostRead, mostFile) {
				want, wantEnd := reads(data, offset, count)
				if got, end := node.Read(data, offset, count); got != want || end != wantEnd {
					t.Fatalf("Read of %d bytes, %d, %d: %q, %v, want %q, %v", n, offset, count, got, end, want, wantEnd)
				}
			}
		}
	}
}

// anyBytes is n bytes of all sorts.
func anyBytes(chance *rand.Rand, n int) string {
	text := make([]byte, n)
	chance.Read(text)
	return string(text)
}

// P20.1: any bytes, read anywhere.
func TestReadAnyBytes(t *testing.T) {
	chance := rand.New(rand.NewSource(1))
	for range 20000 {
		data := anyBytes(chance, chance.Intn(700))
		offset, count := chance.Intn(800)-50, chance.Intn(400)-50
		want, wantEnd := reads(data, offset, count)
		if got, end := node.Read(data, offset, count); got != want || end != wantEnd {
			t.Fatalf("Read(%q, %d, %d) = %q, %v, want %q, %v", data, offset, count, got, end, want, wantEnd)
		}
	}
}
