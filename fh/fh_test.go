package fh_test

import (
	"math"
	"math/rand"
	"strconv"
	"strings"
	"testing"

	"posthouse/api"
	"posthouse/fh"
)

// issued is parts, with the handle and the text that they have.
type issued struct {
	parts  api.Parts
	handle string
	text   string
}

func issueds() []issued {
	return []issued{
		{api.Parts{Kind: 1, A: 1, B: 1}, "\x01\x00\x00\x00\x00\x00\x00\x01\x00\x00\x00\x00\x00\x00\x00\x01", "o1.1"},
		{api.Parts{Kind: 2, A: 0, B: 0}, "\x02\x00\x00\x00\x00\x00\x00\x00\x00\x00\x00\x00\x00\x00\x00\x00", "p0.0"},
		{api.Parts{Kind: 1, A: 0, B: 0}, "\x01\x00\x00\x00\x00\x00\x00\x00\x00\x00\x00\x00\x00\x00\x00\x00", "o0.0"},
		{api.Parts{Kind: 2, A: 1, B: 1}, "\x02\x00\x00\x00\x00\x00\x00\x01\x00\x00\x00\x00\x00\x00\x00\x01", "p1.1"},
		{api.Parts{Kind: 1, A: 1, B: 0}, "\x01\x00\x00\x00\x00\x00\x00\x01\x00\x00\x00\x00\x00\x00\x00\x00", "o1.0"},
		{api.Parts{Kind: 1, A: 0, B: 1}, "\x01\x00\x00\x00\x00\x00\x00\x00\x00\x00\x00\x00\x00\x00\x00\x01", "o0.1"},
		{api.Parts{Kind: 2, A: 12, B: 345}, "\x02\x00\x00\x00\x00\x00\x00\x0c\x00\x00\x00\x00\x00\x00\x01\x59", "p12.345"},
		{api.Parts{Kind: 1, A: 10, B: 100}, "\x01\x00\x00\x00\x00\x00\x00\x0a\x00\x00\x00\x00\x00\x00\x00\x64", "o10.100"},
		{api.Parts{Kind: 1, A: 0x01020304, B: 0x05060708090a0b0c}, "\x01\x00\x00\x00\x01\x02\x03\x04\x05\x06\x07\x08\x09\x0a\x0b\x0c", "o16909060.361984551142689548"},
		{api.Parts{Kind: 2, A: 0xfffefdfc, B: 0x7bfaf9f8f7f6f5f4}, "\x02\x00\x00\x00\xff\xfe\xfd\xfc\x7b\xfa\xf9\xf8\xf7\xf6\xf5\xf4", "p4294901244.8933727658550162932"},
		{api.Parts{Kind: 1, A: 1<<32 - 1, B: 1}, "\x01\x00\x00\x00\xff\xff\xff\xff\x00\x00\x00\x00\x00\x00\x00\x01", "o4294967295.1"},
		{api.Parts{Kind: 2, A: 1<<32 - 1, B: 1<<63 - 1}, "\x02\x00\x00\x00\xff\xff\xff\xff\x7f\xff\xff\xff\xff\xff\xff\xff", "p4294967295.9223372036854775807"},
		{api.Parts{Kind: 1, A: 0, B: 1<<63 - 1}, "\x01\x00\x00\x00\x00\x00\x00\x00\x7f\xff\xff\xff\xff\xff\xff\xff", "o0.9223372036854775807"},
		{api.Parts{Kind: 2, A: 1 << 31, B: 1 << 32}, "\x02\x00\x00\x00\x80\x00\x00\x00\x00\x00\x00\x01\x00\x00\x00\x00", "p2147483648.4294967296"},
	}
}

// P3.1, P3.2: parts, their handle and their text, each from the other.
func TestPartsHandlesAndTexts(t *testing.T) {
	for _, c := range issueds() {
		if got := fh.Make(c.parts); got != c.handle {
			t.Errorf("Make(%v) = %x, want %x", c.parts, got, c.handle)
		}
		if got, err := fh.Parse(c.handle); got != c.parts || err != api.OK {
			t.Errorf("Parse(%x) = %v, %d, want %v", c.handle, got, err, c.parts)
		}
		if got := fh.Text(c.handle); got != c.text {
			t.Errorf("Text(%x) = %q, want %q", c.handle, got, c.text)
		}
		if got, err := fh.Read(c.text); got != c.handle || err != api.OK {
			t.Errorf("Read(%q) = %x, %d, want %x", c.text, got, err, c.handle)
		}
	}
}

// P3.2: the two handles that have names of their own.
func TestRootAndNever(t *testing.T) {
	if got := fh.Root(); got != "\x01\x00\x00\x00\x00\x00\x00\x01\x00\x00\x00\x00\x00\x00\x00\x01" || fh.Text(got) != "o1.1" {
		t.Errorf("Root() = %x, %q", got, fh.Text(got))
	}
	if got := fh.Never(); got != "\x02\x00\x00\x00\x00\x00\x00\x00\x00\x00\x00\x00\x00\x00\x00\x00" || fh.Text(got) != "p0.0" {
		t.Errorf("Never() = %x, %q", got, fh.Text(got))
	}
	if len(fh.Root()) != api.FhSize || len(fh.Never()) != api.FhSize {
		t.Errorf("%d and %d bytes", len(fh.Root()), len(fh.Never()))
	}
}

// P3.1: parts that have no handle, each for one fault alone.
func TestPartsWithoutAHandle(t *testing.T) {
	kinds := []int{0, 3, -1, 4, 255, 256, 257, 258, 1 << 24, 1<<32 + 1, 1<<40 + 1, 1<<40 + 2, 1<<56 + 1, math.MinInt, math.MinInt + 1, math.MaxInt}
	for _, kind := range kinds {
		for _, p := range []api.Parts{{Kind: kind}, {Kind: kind, A: 1, B: 1}, {Kind: kind, A: 1<<32 - 1, B: math.MaxInt}} {
			if got := fh.Make(p); got != "" {
				t.Errorf("Make(%v) = %x", p, got)
			}
		}
	}
	for _, kind := range []int{1, 2} {
		for _, a := range []int{-1, -2, -1 << 31, -1 << 32, math.MinInt, 1 << 32, 1<<32 + 1, 1 << 33, 1 << 62, math.MaxInt} {
			for _, b := range []int{0, 1, 1 << 32, math.MaxInt} {
				if got := fh.Make(api.Parts{Kind: kind, A: a, B: b}); got != "" {
					t.Errorf("Make(%d, %d, %d) = %x", kind, a, b, got)
				}
			}
		}
		for _, b := range []int{-1, -2, -1 << 32, math.MinInt + 1, math.MinInt} {
			for _, a := range []int{0, 1, 1<<32 - 1} {
				if got := fh.Make(api.Parts{Kind: kind, A: a, B: b}); got != "" {
					t.Errorf("Make(%d, %d, %d) = %x", kind, a, b, got)
				}
			}
		}
		if got := fh.Make(api.Parts{Kind: kind, A: -1, B: -1}); got != "" {
			t.Errorf("Make(%d, -1, -1) = %x", kind, got)
		}
	}
}

func notAHandle(t *testing.T, s string) {
	t.Helper()
	if p, err := fh.Parse(s); err != api.ErrForm || p != (api.Parts{}) {
		t.Errorf("Parse(%x) = %v, %d, want ErrForm alone", s, p, err)
	}
	if text := fh.Text(s); text != "" {
		t.Errorf("Text(%x) = %q", s, text)
	}
}

func with(s string, at int, b byte) string {
	return s[:at] + string([]byte{b}) + s[at+1:]
}

// P3.1, P3.2: bytes that no parts have.
func TestBytesThatAreNoHandle(t *testing.T) {
	for _, c := range issueds() {
		s := c.handle
		for n := range s {
			notAHandle(t, s[:n])
			notAHandle(t, s[n+1:])
		}
		for _, more := range []string{"\x00", "\x01", s[1:], s, strings.Repeat("\x00", 48)} {
			notAHandle(t, s+more)
			if more[0] == 0 {
				notAHandle(t, more+s)
			}
		}
		for b := 1; b < 256; b++ {
			for at := 1; at < 4; at++ {
				notAHandle(t, with(s, at, byte(b)))
			}
			if b > 2 {
				notAHandle(t, with(s, 0, byte(b)))
			}
			if b > 127 {
				notAHandle(t, with(s, 8, byte(b)))
			}
		}
		notAHandle(t, with(s, 0, 0))
		notAHandle(t, s[:8]+strings.Repeat("\xff", 8))
		notAHandle(t, s[:8]+"\x80"+strings.Repeat("\x00", 7))
		notAHandle(t, s[:1]+"\xff\xff\xff"+s[4:])
	}
	notAHandle(t, strings.Repeat("\x00", 16))
	notAHandle(t, strings.Repeat("\xff", 16))
	notAHandle(t, strings.Repeat("o", 16))
	notAHandle(t, "o1.1")
}

// P3.1: each other byte of a handle is part of A or of B.
func TestEachByteCounts(t *testing.T) {
	for _, c := range issueds() {
		for at := 4; at < api.FhSize; at++ {
			for b := range 256 {
				s := with(c.handle, at, byte(b))
				if at == 8 && b > 127 {
					continue
				}
				p, err := fh.Parse(s)
				if err != api.OK || (p == c.parts) != (s == c.handle) || fh.Make(p) != s {
					t.Errorf("Parse(%x) = %v, %d", s, p, err)
				}
			}
		}
	}
}

// P3.2: handles by two numbers that are both counted from 1.
func TestNodeAndVirtual(t *testing.T) {
	for _, c := range []struct {
		a, b int
		want string
	}{
		{1, 1, "1.1"}, {1, 2, "1.2"}, {2, 1, "2.1"}, {7, 12345, "7.12345"},
		{1<<32 - 1, 1, "4294967295.1"}, {1, math.MaxInt, "1.9223372036854775807"},
		{1<<32 - 1, math.MaxInt, "4294967295.9223372036854775807"}, {1, 1 << 32, "1.4294967296"},
		{0, 1, ""}, {1, 0, ""}, {0, 0, ""}, {-1, 1, ""}, {1, -1, ""}, {-1, -1, ""},
		{0, math.MaxInt, ""}, {1<<32 - 1, 0, ""}, {math.MinInt, 1, ""}, {1, math.MinInt, ""},
		{1 << 32, 1, ""}, {1<<32 + 1, 1, ""}, {math.MaxInt, 1, ""}, {1 << 32, 0, ""}, {math.MaxInt, math.MaxInt, ""},
	} {
		node, virtual := fh.Node(c.a, c.b), fh.Virtual(c.a, c.b)
		if c.want == "" {
			if node != "" || virtual != "" {
				t.Errorf("of %d and %d: %x and %x", c.a, c.b, node, virtual)
			}
			continue
		}
		if fh.Text(node) != "o"+c.want || fh.Text(virtual) != "p"+c.want {
			t.Errorf("of %d and %d: %q and %q", c.a, c.b, fh.Text(node), fh.Text(virtual))
		}
		if p, err := fh.Parse(node); err != api.OK || p != (api.Parts{Kind: api.FhOrigin, A: c.a, B: c.b}) {
			t.Errorf("Node(%d, %d) has the parts %v", c.a, c.b, p)
		}
		if p, err := fh.Parse(virtual); err != api.OK || p != (api.Parts{Kind: api.FhIssued, A: c.a, B: c.b}) {
			t.Errorf("Virtual(%d, %d) has the parts %v", c.a, c.b, p)
		}
	}
}

// P3.2: texts that no handle has.
func TestTextsOfNoHandle(t *testing.T) {
	for _, text := range []string{
		"", "o", "p", ".", "1", "1.1", "o.", "o1", "o1.", "o.1", "p.", "p0", "p0.", "p.0", "o1 1", "o1,1", "o11",
		"o01.1", "o1.01", "o00.1", "o1.00", "p00.0", "p0.00", "p000.000", "o001.1", "o1.0000000000000000000001",
		"o+1.1", "o1.+1", "o-1.1", "o1.-1", "p-0.0", "p0.-0", "p+0.0", "p0.+0", "o-1.-1",
		"a1.1", "O1.1", "P0.0", "q1.1", "n1.1", "x1.1", "oo1.1", "op1.1", "po1.1", "0.0", "\x001.1", "\x011.1", "\x021.1", "\xff1.1", "ó1.1",
		" o1.1", "o1.1 ", "o 1.1", "o1 .1", "o1. 1", "o1.1\n", "\no1.1", "o1.1\x00", "o1.1.", "o1.1.1", "o1..1", "o.1.1", "o1.1o", "o1.1p1.1", "o1.1o1.1",
		"o4294967296.1", "o4294967297.1", "p42949672950.1", "o9223372036854775808.1", "o18446744073709551617.1",
		"o1.9223372036854775808", "p1.9223372036854775809", "o1.18446744073709551615", "o1.18446744073709551616", "o1.18446744073709551617", "o1.99999999999999999999999999",
		"o1_0.1", "o1.1_0", "o0x1.1", "o1.0x1", "o0b1.1", "o1e1.1", "o1.1e1", "o1a.1", "o1.1a", "oa.1", "o1.a", "o１.1", "o1.١", "o1\x00.1",
		"%", "o1%2e1", fh.Root(), "o" + strings.Repeat("1", 1000) + ".1", "o1." + strings.Repeat("0", 1000) + "1", strings.Repeat("o1.1", 1000),
	} {
		if s, err := fh.Read(text); err != api.ErrText || s != "" {
			t.Errorf("Read(%q) = %x, %d, want ErrText alone", text, s, err)
		}
	}
}

// P3.2: of all texts of up to five of these characters, those of handles are read, and no others.
func TestAllShortTexts(t *testing.T) {
	right := map[string]int{}
	for _, kind := range "op" {
		for a := range 1000 {
			for b := range 1000 {
				text := string(kind) + strconv.Itoa(a) + "." + strconv.Itoa(b)
				if len(text) <= 5 {
					right[text] = 1
				}
			}
		}
	}
	tried := 0
	var try func(text string)
	try = func(text string) {
		s, err := fh.Read(text)
		if right[text] == 1 {
			tried++
			if err != api.OK || fh.Text(s) != text {
				t.Errorf("Read(%q) = %x, %d", text, s, err)
			}
		} else if err != api.ErrText || s != "" {
			t.Errorf("Read(%q) = %x, %d, want ErrText alone", text, s, err)
		}
		if len(text) < 5 {
			for _, c := range "op.0129-+ x" {
				try(text + string(c))
			}
		}
	}
	try("")
	if tried == 0 {
		t.Error("no text of a handle was tried")
	}
}

// anyParts are parts that have a handle.
func anyParts(chance *rand.Rand) api.Parts {
	p := api.Parts{Kind: 1 + chance.Intn(2), A: int(chance.Uint32()) >> chance.Intn(33), B: chance.Int() >> chance.Intn(64)}
	switch chance.Intn(8) {
	case 0:
		p.A = 1<<32 - 1
	case 1:
		p.B = math.MaxInt
	}
	return p
}

// P3.3: parts come back from handles and handles from texts; unlike ones have unlike ones.
func TestAllComesBack(t *testing.T) {
	chance := rand.New(rand.NewSource(1))
	parts, handles, texts := map[api.Parts]int{}, map[string]int{}, map[string]int{}
	for range 30000 {
		p := anyParts(chance)
		s := fh.Make(p)
		text := fh.Text(s)
		if len(s) != api.FhSize {
			t.Fatalf("Make(%v) = %x", p, s)
		}
		if got, err := fh.Parse(s); got != p || err != api.OK {
			t.Fatalf("%v came back as %v, %d", p, got, err)
		}
		if got, err := fh.Read(text); got != s || err != api.OK {
			t.Fatalf("%x came back as %x, %d from %q", s, got, err, text)
		}
		parts[p], handles[s], texts[text] = 1, 1, 1
	}
	if len(parts) != len(handles) || len(parts) != len(texts) {
		t.Errorf("%d parts, %d handles and %d texts", len(parts), len(handles), len(texts))
	}
}

// P3.1, P3.3: any 16 bytes are those of a handle, which its parts have, or of none.
func TestAnyBytes(t *testing.T) {
	chance := rand.New(rand.NewSource(2))
	handles := 0
	for range 50000 {
		b := []byte(fh.Make(anyParts(chance)))
		for range chance.Intn(3) {
			b[chance.Intn(len(b))] = byte(chance.Intn(256))
		}
		s := string(b)
		right := (b[0] == 1 || b[0] == 2) && string(b[1:4]) == "\x00\x00\x00" && b[8] < 128
		if !right {
			notAHandle(t, s)
			continue
		}
		handles++
		p, err := fh.Parse(s)
		if err != api.OK || fh.Make(p) != s {
			t.Errorf("Parse(%x) = %v, %d", s, p, err)
		}
	}
	if handles == 0 {
		t.Error("no handle was tried")
	}
}

// P1: every call ends and none panics, whatever it is given.
func TestNoCallPanics(t *testing.T) {
	numbers := []int{math.MinInt, math.MinInt + 1, -1 << 32, -1, 0, 1, 2, 3, 255, 256, 1 << 31, 1<<32 - 1, 1 << 32, math.MaxInt - 1, math.MaxInt}
	for _, a := range numbers {
		for _, b := range numbers {
			fh.Node(a, b)
			fh.Virtual(a, b)
			for _, kind := range numbers {
				s := fh.Make(api.Parts{Kind: kind, A: a, B: b})
				if p, err := fh.Parse(s); (err == api.OK) != (s != "") || err == api.OK && p != (api.Parts{Kind: kind, A: a, B: b}) {
					t.Errorf("Make(%d, %d, %d) = %x", kind, a, b, s)
				}
			}
		}
	}
	texts := []string{"", "\x00", "o", "p", ".", "o.", "\xff\xfe", strings.Repeat("\x00", 15), strings.Repeat("\xff", 17), strings.Repeat("o1.", 1<<20), "o" + strings.Repeat("9", 1<<22), "p1." + strings.Repeat("9", 1<<22)}
	for _, s := range texts {
		if _, err := fh.Parse(s); err != api.ErrForm {
			t.Errorf("Parse(%.40q): error %d", s, err)
		}
		if fh.Text(s) != "" {
			t.Errorf("Text(%.40q) is not empty", s)
		}
		if _, err := fh.Read(s); err != api.ErrText {
			t.Errorf("Read(%.40q): error %d", s, err)
		}
	}
}
