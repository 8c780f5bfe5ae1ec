package node_test

import (
	"math"
	"math/big"
	"math/rand"
	"testing"

	"posthouse/api"
	"posthouse/node"
)

// written is data with a text in it, byte by byte, or why there is no such data.
func written(data string, offset int, text string) (string, api.Status) {
	if offset < 0 {
		return "", api.StInval
	}
	if text == "" {
		return data, api.StOK
	}
	end := new(big.Int).Add(big.NewInt(int64(offset)), big.NewInt(int64(len(text))))
	if end.Cmp(big.NewInt(mostFile)) > 0 {
		return "", api.StFBig
	}
	got := []byte(data)
	for i := range len(text) {
		for len(got) <= offset+i {
			got = append(got, 0)
		}
		got[offset+i] = text[i]
	}
	return string(got), api.StOK
}

// writes tells whether Write returns this.
func writes(t *testing.T, data string, offset int, text, want string, status api.Status) {
	t.Helper()
	if got, why := node.Write(data, offset, text); got != want || why != status {
		t.Errorf("Write to %d bytes, at %d, of %d bytes: %q, %d, want %q, %d", len(data), offset, len(text), got, why, want, status)
	}
}

// P20.2: some writings, written out: amid the data, over its end, at its end, and behind a gap.
func TestWrite(t *testing.T) {
	for _, c := range []struct {
		data   string
		offset int
		text   string
		want   string
	}{
		{"x", 2, "ab", "x\x00ab"}, {"", 0, "a", "a"}, {"", 1, "a", "\x00a"}, {"", 3, "ab", "\x00\x00\x00ab"},
		{"xyz", 0, "a", "ayz"}, {"xyz", 1, "a", "xaz"}, {"xyz", 2, "a", "xya"}, {"xyz", 3, "a", "xyza"}, {"xyz", 4, "a", "xyz\x00a"}, {"xyz", 6, "a", "xyz\x00\x00\x00a"},
		{"xyz", 0, "ab", "abz"}, {"xyz", 1, "ab", "xab"}, {"xyz", 2, "ab", "xyab"}, {"xyz", 3, "ab", "xyzab"}, {"xyz", 4, "ab", "xyz\x00ab"},
		{"xyz", 0, "abc", "abc"}, {"xyz", 0, "abcd", "abcd"}, {"xyz", 2, "abcd", "xyabcd"}, {"xyz", 1, "xyz", "xxyz"},
		{"xyz", 1, "\x00", "x\x00z"}, {"xyz", 2, "\x00\x00", "xy\x00\x00"}, {"\x00\x00", 1, "\xff", "\x00\xff"},
		{"xyz", 0, "", "xyz"}, {"xyz", 1, "", "xyz"}, {"xyz", 3, "", "xyz"}, {"xyz", 9, "", "xyz"}, {"", 0, "", ""}, {"", 9, "", ""},
	} {
		writes(t, c.data, c.offset, c.text, c.want, api.StOK)
	}
}

// P20.2: no bytes leave the data as it is, wherever they are written but ahead of it; a negative offset has no data, whatever is written there.
func TestWriteNothingAndAhead(t *testing.T) {
	for _, data := range []string{"", "x", small(1023), small(1024), small(1025), small(3000)} {
		for _, offset := range []int{0, 1, 2, 1023, 1024, 1025, 5000, math.MaxInt - 1, math.MaxInt} {
			writes(t, data, offset, "", data, api.StOK)
		}
		for _, offset := range []int{-1, -2, -1024, -1025, math.MinInt + 1024, math.MinInt + 1, math.MinInt} {
			for _, text := range []string{"", "a", capital(1024), capital(1025)} {
				writes(t, data, offset, text, "", api.StInval)
			}
		}
	}
}

// P20.2: bytes that end at the greatest size of a file, or ahead of it, are written; others are not.
func TestWriteUpToTheGreatestSize(t *testing.T) {
	for _, data := range []string{"", "x", small(1000), small(1023), small(1024), small(1025), small(3000)} {
		for _, n := range []int{1, 2, 24, 255, 256, 257, 1023, 1024} {
			text := capital(n)
			for _, offset := range []int{max(1023-n, 0), 1024 - n} {
				rest := data[min(offset+n, len(data)):]
				ahead := (data + zeros(1024))[:offset]
				writes(t, data, offset, text, ahead+text+rest, api.StOK)
			}
			for _, offset := range []int{1025 - n, 1026 - n, 1024, 1025, math.MaxInt - 1024, math.MaxInt - n, math.MaxInt - n + 1, math.MaxInt - 1, math.MaxInt} {
				writes(t, data, offset, text, "", api.StFBig)
			}
		}
		for _, offset := range []int{0, 1, 1024, math.MaxInt} {
			writes(t, data, offset, capital(1025), "", api.StFBig)
			writes(t, data, offset, capital(5000), "", api.StFBig)
		}
	}
}

// P20.2: data and texts of many lengths, with offsets at all edges.
func TestWriteAtEdges(t *testing.T) {
	for _, n := range []int{0, 1, 2, 3, 255, 256, 257, 1022, 1023, 1024, 1025, 2000} {
		for _, length := range []int{0, 1, 2, 3, 128, 256, 1022, 1023, 1024, 1025, 2000} {
			data, text := small(n), capital(length)
			for _, offset := range around(1, n/2, n-length, n, mostFile-length, mostFile, math.MaxInt-length-1) {
				want, status := written(data, offset, text)
				writes(t, data, offset, text, want, status)
			}
		}
	}
}

// P20.2: sizes that are not allowed, less than the length, the length, and more.
func TestResize(t *testing.T) {
	for _, c := range []struct {
		data string
		size int
		want string
	}{
		{"xyz", 0, ""}, {"xyz", 1, "x"}, {"xyz", 2, "xy"}, {"xyz", 3, "xyz"}, {"xyz", 4, "xyz\x00"}, {"xyz", 6, "xyz\x00\x00\x00"},
		{"", 0, ""}, {"", 1, "\x00"}, {"", 3, "\x00\x00\x00"}, {"", 1024, zeros(1024)},
		{small(1023), 1023, small(1023)}, {small(1023), 1024, small(1023) + "\x00"}, {small(1024), 1024, small(1024)}, {small(1024), 1023, small(1023)},
		{small(1025), 1024, small(1024)}, {small(1025), 0, ""}, {small(3000), 1024, small(1024)}, {small(3000), 1, "a"}, {"xyz", 1023, "xyz" + zeros(1020)}, {"xyz", 1024, "xyz" + zeros(1021)},
	} {
		if got, why := node.Resize(c.data, c.size); got != c.want || why != api.StOK {
			t.Errorf("Resize of %d bytes to %d: %q, %d, want %q", len(c.data), c.size, got, why, c.want)
		}
	}
	for _, data := range []string{"", "xyz", small(1023), small(1024), small(1025), small(3000)} {
		for _, size := range []int{-1, -2, -1024, math.MinInt + 1, math.MinInt} {
			if got, why := node.Resize(data, size); got != "" || why != api.StInval {
				t.Errorf("Resize of %d bytes to %d: %q, %d, want StInval alone", len(data), size, got, why)
			}
		}
		for _, size := range []int{1025, 1026, 2000, 3000, 1 << 40, math.MaxInt - 1, math.MaxInt} {
			if got, why := node.Resize(data, size); got != "" || why != api.StFBig {
				t.Errorf("Resize of %d bytes to %d: %q, %d, want StFBig alone", len(data), size, got, why)
			}
		}
	}
}

// P20.2: each size of data of some lengths, byte by byte.
func TestResizeToEachSize(t *testing.T) {
	for _, n := range []int{0, 1, 5, 256, 1023, 1024, 1025, 1500} {
		data := small(n)
		for size := range mostFile + 1 {
			got, why := node.Resize(data, size)
			if len(got) != size || why != api.StOK {
				t.Fatalf("Resize of %d bytes to %d: %d bytes, %d", n, size, len(got), why)
			}
			for i := range size {
				if i < n && got[i] != data[i] || i >= n && got[i] != 0 {
					t.Fatalf("Resize of %d bytes to %d: %q at %d", n, size, got[i], i)
				}
			}
		}
	}
}

// P20.6: what is written is read back where it was written, and all other bytes are unchanged, zero bytes in a gap among them.
func TestWrittenIsReadBack(t *testing.T) {
	chance := rand.New(rand.NewSource(2))
	for range 20000 {
		data, text := anyBytes(chance, chance.Intn(1300)), anyBytes(chance, 1+chance.Intn(600))
		offset := chance.Intn(mostFile - len(text) + 1)
		got, why := node.Write(data, offset, text)
		if why != api.StOK || len(got) != max(len(data), offset+len(text)) {
			t.Fatalf("Write to %d bytes, at %d, of %d bytes: %d bytes, %d", len(data), offset, len(text), len(got), why)
		}
		back := ""
		for len(back) < len(text) {
			part, end := node.Read(got, offset+len(back), len(text)-len(back))
			if part == "" || end != (offset+len(back)+len(part) == len(got)) {
				t.Fatalf("Read of %d bytes, %d behind %d: %q, %v", len(got), len(back), offset, part, end)
			}
			back += part
		}
		if back != text {
			t.Fatalf("%q, written at %d to %d bytes, came back as %q", text, offset, len(data), back)
		}
		for i := range len(got) {
			switch {
			case i >= offset && i < offset+len(text):
			case i < len(data) && got[i] != data[i], i >= len(data) && got[i] != 0:
				t.Fatalf("Write to %d bytes, at %d, of %d bytes: %d at %d", len(data), offset, len(text), got[i], i)
			}
		}
	}
}

// P20.2, P20.6: any series of writings and resizings leaves what they leave byte by byte.
func TestSeriesOfWritings(t *testing.T) {
	chance := rand.New(rand.NewSource(3))
	for range 200 {
		data := ""
		for range 100 {
			if chance.Intn(5) == 0 {
				size := chance.Intn(1100)
				if got, why := node.Resize(data, size); why == api.StOK {
					if want := (data + zeros(size))[:size]; got != want {
						t.Fatalf("Resize of %q to %d: %q", data, size, got)
					}
					data = got
				}
				continue
			}
			offset, text := chance.Intn(1100), anyBytes(chance, chance.Intn(100))
			want, status := written(data, offset, text)
			writes(t, data, offset, text, want, status)
			if status == api.StOK {
				data = want
			}
		}
	}
}
