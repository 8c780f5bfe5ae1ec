package sum_test

import (
	"math"
	"math/rand"
	"strings"
	"sync"
	"testing"

	"posthouse/sum"
)

// byBit is the checksum as the document defines it, bit by bit.
func byBit(text string) uint32 {
	register := uint32(math.MaxUint32)
	for _, b := range []byte(text) {
		register ^= uint32(b)
		for range 8 {
			out := register & 1
			register >>= 1
			if out == 1 {
				register ^= 0x82f63b78
			}
		}
	}
	return ^register
}

// counting is the bytes from 0 to n - 1.
func counting(n int) string {
	b := make([]byte, n)
	for i := range b {
		b[i] = byte(i)
	}
	return string(b)
}

func anyText(chance *rand.Rand, n int) string {
	b := make([]byte, n)
	chance.Read(b)
	return string(b)
}

// texts are texts of many lengths and contents.
func texts() []string {
	chance := rand.New(rand.NewSource(1))
	list := []string{"", "123456789", counting(256), strings.Repeat("\x00", 50), strings.Repeat("\xff", 50), "żółw"}
	for b := range 256 {
		list = append(list, string([]byte{byte(b)}), string([]byte{0, byte(b), 0xff}))
	}
	for n := range 300 {
		list = append(list, anyText(chance, n))
	}
	return append(list, anyText(chance, 1<<16+3))
}

// P2.1: sums that are known, of the empty text and of the example among them.
func TestKnownSums(t *testing.T) {
	down := []byte(counting(32))
	for i := range down {
		down[i] = byte(31 - i)
	}
	for _, c := range []struct {
		text string
		want uint32
	}{
		{"", 0},
		{"123456789", 0xe3069283},
		{"a", 0xc1d04330},
		{"abc", 0x364b3fb7},
		{strings.Repeat("\x00", 32), 0x8a9136aa},
		{strings.Repeat("\xff", 32), 0x62a8ab43},
		{counting(32), 0x46dd794e},
		{string(down), 0x113fdb5c},
	} {
		if got := sum.Of(c.text); got != c.want {
			t.Errorf("Of(%q) = %x, want %x", c.text, got, c.want)
		}
		if got := sum.New().Of(c.text); got != c.want {
			t.Errorf("New().Of(%q) = %x, want %x", c.text, got, c.want)
		}
	}
}

// P2.1: the function and the method are the sum as it is defined; a summer may be asked often, and again.
func TestOf(t *testing.T) {
	s := sum.New()
	for range 2 {
		for _, text := range texts() {
			want := byBit(text)
			if got := sum.Of(text); got != want {
				t.Errorf("Of(%.40q) = %x, want %x", text, got, want)
			}
			if got := s.Of(text); got != want {
				t.Errorf("s.Of(%.40q) = %x, want %x", text, got, want)
			}
		}
	}
}

// P2.2: a summer that was never asked may be asked More at first.
func TestMoreFirst(t *testing.T) {
	if got := sum.New().More(byBit("12345"), "6789"); got != 0xe3069283 {
		t.Errorf("%x", got)
	}
}

// P2.2: texts that go on, cut at each place, and byte by byte.
func TestMore(t *testing.T) {
	s := sum.New()
	chance := rand.New(rand.NewSource(2))
	for _, text := range []string{"", "1", "123456789", counting(256), strings.Repeat("\x00", 40), anyText(chance, 77)} {
		want := byBit(text)
		byByte := s.Of("")
		for at := range len(text) + 1 {
			if got := s.More(s.Of(text[:at]), text[at:]); got != want {
				t.Errorf("%.40q cut at %d: %x, want %x", text, at, got, want)
			}
			if at < len(text) {
				byByte = s.More(byByte, text[at:at+1])
			}
		}
		if byByte != want {
			t.Errorf("%.40q byte by byte: %x, want %x", text, byByte, want)
		}
		if got := s.More(0, text); got != want {
			t.Errorf("%.40q behind the empty text: %x, want %x", text, got, want)
		}
	}
}

// P2.2: the empty text changes no sum.
func TestMoreOfNothing(t *testing.T) {
	s := sum.New()
	for _, n := range []uint32{0, 1, 0x82f63b78, 0xe3069283, 1 << 31, math.MaxUint32} {
		if got := s.More(n, ""); got != n {
			t.Errorf("More(%x, nothing) = %x", n, got)
		}
	}
}

// P2.3: Of and More of this summer are counted, and nothing else.
func TestCalls(t *testing.T) {
	s, other := sum.New(), sum.New()
	check := func(what string, want int) {
		t.Helper()
		if s.Calls() != want {
			t.Errorf("%s: %d calls, want %d", what, s.Calls(), want)
		}
	}
	check("new", 0)
	check("asked for its calls", 0)
	s.Of("a")
	check("one Of", 1)
	s.More(5, "a")
	check("one More", 2)
	s.Of("")
	check("an empty Of", 3)
	s.More(0, "")
	check("an empty More", 4)
	s.Of("123456789")
	check("an Of of nine bytes", 5)
	sum.Of("a")
	check("the package's Of", 5)
	other.Of("a")
	check("another summer's Of", 5)
	if other.Calls() != 1 {
		t.Errorf("the other one: %d calls, want 1", other.Calls())
	}
	for range 1000 {
		s.Of("b")
	}
	check("1000 more", 1005)
}

// Several may use one summer: the table is made once, and each call is counted.
func TestSharedSummer(t *testing.T) {
	for range 20 {
		s := sum.New()
		wrong := make([]int, 8)
		var all sync.WaitGroup
		for i := range wrong {
			all.Add(1)
			go func() {
				defer all.Done()
				for range 200 {
					if s.Of("123456789") != 0xe3069283 || s.More(s.Of("1234"), "56789") != 0xe3069283 {
						wrong[i]++
					}
				}
			}()
		}
		all.Wait()
		for i, n := range wrong {
			if n > 0 {
				t.Errorf("goroutine %d had %d wrong sums", i, n)
			}
		}
		if s.Calls() != 8*200*3 {
			t.Errorf("%d calls, want %d", s.Calls(), 8*200*3)
		}
	}
}

// A nil summer answers 0 and counts nothing.
func TestNilSummer(t *testing.T) {
	var s *sum.Summer
	for _, text := range []string{"", "123456789"} {
		if s.Of(text) != 0 || s.More(0, text) != 0 || s.More(0xe3069283, text) != 0 || s.Calls() != 0 {
			t.Errorf("%q: %x, %x, %x, %d", text, s.Of(text), s.More(0, text), s.More(0xe3069283, text), s.Calls())
		}
	}
	if sum.New().Calls() != 0 {
		t.Error("what a nil summer was asked was counted")
	}
}

// differing is text with its four bytes from at on changed.
func differing(text string, at int, by uint32) string {
	b := []byte(text)
	for i := 0; i < 4; i++ {
		if at+i < len(b) {
			b[at+i] ^= byte(by >> (8 * i))
		}
	}
	return string(b)
}

// P2.4: texts that differ only within four consecutive bytes have different sums.
func TestShortDifferencesAreSeen(t *testing.T) {
	chance := rand.New(rand.NewSource(3))
	s := sum.New()
	for _, n := range []int{1, 2, 3, 4, 5, 8, 33, 128} {
		text := anyText(chance, n)
		was := s.Of(text)
		for at := range n {
			var changes []uint32
			for bit := range 32 {
				changes = append(changes, 1<<bit, math.MaxUint32>>bit, 3<<bit, 0x82f63b78>>bit, 0x05ec76f1<<bit)
			}
			for range 200 {
				changes = append(changes, chance.Uint32())
			}
			for _, by := range changes {
				if other := differing(text, at, by); other != text && s.Of(other) == was {
					t.Errorf("%q and %q have one sum", text, other)
				}
			}
		}
	}
}

// P2.4: all texts of two bytes have different sums, as have all that differ in the first and last of four.
func TestAllPairsOfBytes(t *testing.T) {
	s := sum.New()
	for _, between := range []string{"", "\x00\x00", "zz"} {
		seen := map[uint32]string{}
		for a := range 256 {
			for b := range 256 {
				text := string([]byte{byte(a)}) + between + string([]byte{byte(b)})
				n := s.Of(text)
				if other, is := seen[n]; is {
					t.Errorf("%q and %q have one sum", text, other)
				}
				seen[n] = text
			}
		}
	}
}

// P2.5: the sums of three texts and of their exclusive or cancel out.
func TestExclusiveOr(t *testing.T) {
	chance := rand.New(rand.NewSource(4))
	s := sum.New()
	for n := range 200 {
		a, b, c := anyText(chance, n), anyText(chance, n), anyText(chance, n)
		d := make([]byte, n)
		for i := range d {
			d[i] = a[i] ^ b[i] ^ c[i]
		}
		if got := s.Of(a) ^ s.Of(b) ^ s.Of(c) ^ s.Of(string(d)); got != 0 {
			t.Errorf("%d bytes: %x", n, got)
		}
	}
}

// P1: every call ends and none panics, whatever it is given.
func TestNoCallPanics(t *testing.T) {
	long := strings.Repeat("\xff", 1<<22)
	for _, s := range []*sum.Summer{nil, {}, sum.New()} {
		s.Calls()
		for _, text := range []string{"", "\x00", "\xff\xfe", "\xc3\x28", long} {
			s.Of(text)
			s.More(0, text)
			s.More(math.MaxUint32, text)
			sum.Of(text)
		}
		if s != nil && s.Calls() != 15 {
			t.Errorf("%d calls, want 15", s.Calls())
		}
	}
}
