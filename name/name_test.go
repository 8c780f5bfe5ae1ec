package name_test

import (
	"math/rand"
	"slices"
	"strings"
	"testing"

	"posthouse/api"
	"posthouse/name"
)

func bytes(n int) string {
	return strings.Repeat("n", n)
}

// P4.1: names and what is none; of several faults StInval is told.
func TestCheck(t *testing.T) {
	for _, c := range []struct {
		s    string
		want api.Status
	}{
		{"a", api.StOK}, {"a b", api.StOK}, {"...", api.StOK}, {".a", api.StOK}, {"a.", api.StOK}, {"..a", api.StOK}, {". ", api.StOK}, {".. ", api.StOK},
		{" ", api.StOK}, {"%", api.StOK}, {"\\", api.StOK}, {"\n", api.StOK}, {"\x01", api.StOK}, {"\x7f", api.StOK}, {"\xff\xfe", api.StOK}, {"żółw", api.StOK}, {"\u2215", api.StOK}, {"\u2400", api.StOK},
		{bytes(23), api.StOK}, {bytes(24), api.StOK}, {strings.Repeat(".", 24), api.StOK}, {strings.Repeat("ż", 12), api.StOK}, {strings.Repeat("\xff", 24), api.StOK},
		{bytes(25), api.StNameTooLong}, {bytes(26), api.StNameTooLong}, {bytes(48), api.StNameTooLong}, {bytes(1000), api.StNameTooLong},
		{strings.Repeat("ż", 13), api.StNameTooLong}, {strings.Repeat(".", 25), api.StNameTooLong}, {strings.Repeat("\xff", 25), api.StNameTooLong},
		{"", api.StInval}, {".", api.StInval}, {"..", api.StInval},
		{"/", api.StInval}, {"a/", api.StInval}, {"/a", api.StInval}, {"a/b", api.StInval}, {"../a", api.StInval}, {"./", api.StInval},
		{"\x00", api.StInval}, {"a\x00", api.StInval}, {"\x00a", api.StInval}, {"a\x00b", api.StInval}, {".\x00", api.StInval}, {"\xff\x00", api.StInval}, {"\xff/", api.StInval},
		{bytes(23) + "/", api.StInval}, {bytes(23) + "\x00", api.StInval},
		{bytes(25) + "/", api.StInval}, {"/" + bytes(25), api.StInval}, {bytes(25) + "\x00", api.StInval}, {"\x00" + bytes(1000), api.StInval}, {strings.Repeat("/", 25), api.StInval},
	} {
		if got := name.Check(c.s); got != c.want {
			t.Errorf("Check(%q) = %d, want %d", c.s, got, c.want)
		}
	}
}

// P4.1: of single bytes only 0, the slash and the period are no names; the period is one within others, and ahead of too many.
func TestCheckEachByte(t *testing.T) {
	for b := range 256 {
		s := string([]byte{byte(b)})
		alone, within, long := api.StOK, api.StOK, api.StNameTooLong
		switch b {
		case 0, '/':
			alone, within, long = api.StInval, api.StInval, api.StInval
		case '.':
			alone = api.StInval
		}
		if got := name.Check(s); got != alone {
			t.Errorf("Check of byte %d = %d, want %d", b, got, alone)
		}
		if got := name.Check("a" + s + "a"); got != within {
			t.Errorf("Check of byte %d between others = %d, want %d", b, got, within)
		}
		if got := name.Check(s + bytes(24)); got != long {
			t.Errorf("Check of byte %d ahead of 24 = %d, want %d", b, got, long)
		}
	}
}

// P4.1: targets may have slashes, and be . and ..; of several faults StInval is told.
func TestTarget(t *testing.T) {
	for _, c := range []struct {
		s    string
		want api.Status
	}{
		{"a", api.StOK}, {".", api.StOK}, {"..", api.StOK}, {"/", api.StOK}, {"/a/b", api.StOK}, {"../a", api.StOK}, {"//", api.StOK}, {" ", api.StOK}, {"%", api.StOK}, {"\xff", api.StOK}, {"\x01", api.StOK},
		{bytes(24), api.StOK}, {bytes(25), api.StOK}, {bytes(47), api.StOK}, {bytes(48), api.StOK}, {strings.Repeat("/", 48), api.StOK}, {strings.Repeat("ż", 24), api.StOK},
		{bytes(49), api.StNameTooLong}, {bytes(50), api.StNameTooLong}, {bytes(1000), api.StNameTooLong}, {strings.Repeat("ż", 25), api.StNameTooLong}, {strings.Repeat("/", 49), api.StNameTooLong},
		{"", api.StInval}, {"\x00", api.StInval}, {"a\x00", api.StInval}, {"\x00a", api.StInval}, {"/a\x00/b", api.StInval}, {"\xff\x00", api.StInval},
		{bytes(47) + "\x00", api.StInval}, {bytes(49) + "\x00", api.StInval}, {"\x00" + bytes(49), api.StInval}, {strings.Repeat("\x00", 49), api.StInval},
	} {
		if got := name.Target(c.s); got != c.want {
			t.Errorf("Target(%q) = %d, want %d", c.s, got, c.want)
		}
	}
	for b := 1; b < 256; b++ {
		if got := name.Target(string([]byte{byte(b)})); got != api.StOK {
			t.Errorf("Target of byte %d = %d", b, got)
		}
	}
}

// shown is a text and its escaped form.
type shown struct {
	s, t string
}

func showns() []shown {
	return []shown{
		{"", "%"}, {"%", "%25"}, {"%%", "%25%25"}, {"%25", "%2525"}, {"a b", "a%20b"}, {" ", "%20"}, {"%20", "%2520"},
		{"abcdefghijklmnopqrstuvwxyz", "abcdefghijklmnopqrstuvwxyz"}, {"ABCDEFGHIJKLMNOPQRSTUVWXYZ", "ABCDEFGHIJKLMNOPQRSTUVWXYZ"}, {"0123456789", "0123456789"}, {"-_.", "-_."}, {".", "."}, {"..", ".."}, {"-", "-"},
		{"@[`{/:", "%40%5b%60%7b%2f%3a"}, {"\x00", "%00"}, {"\n", "%0a"}, {"\x1f", "%1f"}, {"\x7f", "%7f"}, {",+*", "%2c%2b%2a"}, {"^~", "%5e%7e"},
		{"\u0080", "%c2%80"}, {"\u009f", "%c2%9f"}, {"\u00a0", "%c2%a0"}, {"\u00a1", "\u00a1"}, {"\u00a2", "\u00a2"}, {"\u00ad", "\u00ad"}, {"\u00ff", "\u00ff"}, {"\u0100", "\u0100"}, {"żółw", "żółw"},
		{"\u07ff", "\u07ff"}, {"\u0800", "\u0800"}, {"\u2028", "\u2028"}, {"\u3000", "\u3000"}, {"\ud7ff", "\ud7ff"}, {"\ue000", "\ue000"}, {"\ufeff", "\ufeff"},
		{"\ufffc", "\ufffc"}, {"\ufffd", "%ef%bf%bd"}, {"\ufffe", "\ufffe"}, {"\uffff", "\uffff"}, {"\U00010000", "\U00010000"}, {"\U0001f600", "\U0001f600"}, {"\U0010ffff", "\U0010ffff"},
		{"\x80", "%80"}, {"\xa1", "%a1"}, {"\xbf", "%bf"}, {"\xc3", "%c3"}, {"\xff", "%ff"}, {"\xff\xfe", "%ff%fe"}, {"a\xffb", "a%ffb"},
		{"\xc2\xc2\xa1", "%c2\u00a1"}, {"\u00a1\xa1", "\u00a1%a1"}, {"\xc2a", "%c2a"}, {"\xe2\x82", "%e2%82"}, {"\xe2\x82x", "%e2%82x"}, {"\xf0\x9f\x98", "%f0%9f%98"},
		{"\xc0\x80", "%c0%80"}, {"\xc1\xa1", "%c1%a1"}, {"\xe0\x82\xa1", "%e0%82%a1"}, {"\xed\xa0\x80", "%ed%a0%80"}, {"\xf4\x90\x80\x80", "%f4%90%80%80"}, {"\xf5\x80\x80\x80", "%f5%80%80%80"},
		{"\ufffd\xef\xbf\ufffd", "%ef%bf%bd%ef%bf%ef%bf%bd"}, {"\ufffda", "%ef%bf%bda"}, {"ż\u00a0ż", "ż%c2%a0ż"}, {"a/b c", "a%2fb%20c"},
	}
}

// P4.2: texts and their escaped forms, each from the other.
func TestShowAndRead(t *testing.T) {
	for _, c := range showns() {
		if got := name.Show(c.s); got != c.t {
			t.Errorf("Show(%q) = %q, want %q", c.s, got, c.t)
		}
		if got, err := name.Read(c.t); got != c.s || err != api.OK {
			t.Errorf("Read(%q) = %q, %d, want %q", c.t, got, err, c.s)
		}
	}
}

// hex is bytes, each as a percent sign and two digits.
func hex(s string) string {
	t := ""
	for _, b := range []byte(s) {
		t += "%" + string("0123456789abcdef"[b>>4]) + string("0123456789abcdef"[b&15])
	}
	return t
}

// isPlain tells of each rune up to 160 by its letter.
func isPlain(r rune) bool {
	if r < 161 {
		return strings.ContainsRune("abcdefghijklmnopqrstuvwxyzABCDEFGHIJKLMNOPQRSTUVWXYZ0123456789-_.", r)
	}
	return r != 65533
}

// P4.2, P4.4: each rune there is, alone: it is shown as it is or by its bytes, and read in no other form.
func TestEachRune(t *testing.T) {
	for r := rune(0); r <= 0x10ffff; r++ {
		if r >= 0xd800 && r <= 0xdfff {
			continue
		}
		s := string(r)
		right, wrong := s, hex(s)
		if !isPlain(r) {
			right, wrong = wrong, right
		}
		if r == '%' {
			wrong = "%%" // a percent sign alone is that of the empty text
		}
		if got := name.Show(s); got != right {
			t.Fatalf("Show(%q) = %q, want %q", s, got, right)
		}
		if got, err := name.Read(right); got != s || err != api.OK {
			t.Fatalf("Read(%q) = %q, %d", right, got, err)
		}
		if got, err := name.Read(wrong); got != "" || err != api.ErrText {
			t.Fatalf("Read(%q) = %q, %d, want ErrText alone", wrong, got, err)
		}
	}
}

// P4.2: each byte as an escape, in digits of both kinds.
func TestEachEscape(t *testing.T) {
	for b := range 256 {
		s := string([]byte{byte(b)})
		want := api.OK
		if b < 128 && isPlain(rune(b)) {
			want = api.ErrText
		}
		got, err := name.Read(hex(s))
		if err != want || err == api.OK && got != s || err != api.OK && got != "" {
			t.Errorf("Read(%q) = %q, %d", hex(s), got, err)
		}
		capital := "%" + strings.ToUpper(hex(s)[1:])
		if capital == hex(s) {
			continue
		}
		if got, err := name.Read(capital); err != api.ErrText || got != "" {
			t.Errorf("Read(%q) = %q, %d, want ErrText alone", capital, got, err)
		}
	}
}

// P4.2: what is no escaped form.
func TestReadsNothingElse(t *testing.T) {
	for _, form := range []string{
		"", " ", "a b", "a ", "/", "a/b", "@", "\x00", "\n", "\x7f", "~", "+",
		"\u0080", "\u009f", "\u00a0", "\ufffd", "a\ufffd", "\xff", "\x80", "\xc3", "a\xffb", "\xe2\x82", "\xed\xa0\x80", "\xc0\x80", "%c2\xa1", "\xc2%a1",
		"%%", "%%%", "a%", "%a", "%2", "%0", "a%2", "%20%", "%20%2", "%%20", "%2%20", "%25%", "%a%20", "ż%", "%c2%a",
		"%4a", "%61", "%7a", "%30", "%39", "%41", "%5a", "%2d", "%5f", "%2e", "a%62c", "%2e%2e",
		"%c2%a1", "%c3%a9", "%e2%82%ac", "%f0%9f%98%80", "a%c2%a1", "%c2%a1a", "%c2%c2%a1", "%ff%c2%a1", "%ef%bf%bc", "%ef%bf%be", "%ed%9f%bf", "%ee%80%80", "%f4%8f%bf%bf",
		"%2F", "%2f%2F", "%FF", "%fF", "%Ff", "%C2%A0", "%c2%A0", "%EF%BF%BD", "%0A", "%0D",
		"%g0", "%0g", "%zz", "%-1", "%+1", "%1+", "% 1", "%1 ", "%0x", "%x0", "%_1", "%1_", "%\x00\x00", "%\xff\xff", "%żż", "%2ż", "%.0", "%0.",
		"%200 ", "a%20b c", "%20\x20", "%%00",
	} {
		if s, err := name.Read(form); err != api.ErrText || s != "" {
			t.Errorf("Read(%q) = %q, %d, want ErrText alone", form, s, err)
		}
	}
}

func anyText(chance *rand.Rand) string {
	pieces := []string{"a", "Z", "5", ".", "-", "_", "%", " ", "/", "\x00", "ż", "\u00a0", "\u00a1", "\ufffd", "\U0001f600", "\xff", "\xc2", "\xa1", "\xe2\x82", "\xf0", "\xed\xa0\x80"}
	s := ""
	for range chance.Intn(8) {
		s += pieces[chance.Intn(len(pieces))]
	}
	return s
}

// P4.4: texts come back from their escaped forms; unlike ones have unlike forms.
func TestTextsComeBack(t *testing.T) {
	chance := rand.New(rand.NewSource(1))
	texts, forms := map[string]int{}, map[string]int{}
	for range 100000 {
		s := anyText(chance)
		form := name.Show(s)
		texts[s], forms[form] = 1, 1
		if got, err := name.Read(form); got != s || err != api.OK {
			t.Fatalf("%q came back as %q, %d from %q", s, got, err, form)
		}
		for _, r := range form {
			if r != '%' && !isPlain(r) {
				t.Fatalf("Show(%q) = %q", s, form)
			}
		}
	}
	if len(texts) != len(forms) {
		t.Errorf("%d texts have %d forms", len(texts), len(forms))
	}
}

// P4.2, P4.4: whatever is read shows as what it was read from.
func TestReadShowsAgain(t *testing.T) {
	chance := rand.New(rand.NewSource(2))
	pieces := []string{"a", "%", "%20", "%2", "%c2", "%a1", "%61", "%FF", "%ff", "ż", "\u00a0", "\xc2", "0", "f", "."}
	read := 0
	for range 100000 {
		form := ""
		for range chance.Intn(5) {
			form += pieces[chance.Intn(len(pieces))]
		}
		s, err := name.Read(form)
		switch {
		case err == api.OK && name.Show(s) == form:
			read++
		case err != api.ErrText || s != "":
			t.Fatalf("Read(%q) = %q, %d", form, s, err)
		}
	}
	if read == 0 {
		t.Error("no escaped form was tried")
	}
}

// P4.3: the parts between slashes.
func TestSplit(t *testing.T) {
	for _, c := range []struct {
		path string
		want []string
	}{
		{"", nil}, {"/", nil}, {"//", nil}, {"////", nil},
		{"a", []string{"a"}}, {"/a", []string{"a"}}, {"a/", []string{"a"}}, {"/a/", []string{"a"}}, {"//a//", []string{"a"}},
		{"/a//b", []string{"a", "b"}}, {"a/b", []string{"a", "b"}}, {"/a/b/c", []string{"a", "b", "c"}}, {"///a///b/c//", []string{"a", "b", "c"}},
		{"/a/a/a", []string{"a", "a", "a"}}, {"b/a", []string{"b", "a"}}, {"/./../.", []string{".", "..", "."}},
		{"/a b/ /%2f", []string{"a b", " ", "%2f"}}, {"/\x00/\xff/\xc2/\xa1", []string{"\x00", "\xff", "\xc2", "\xa1"}}, {"ż/\ufffd/\u2215", []string{"ż", "\ufffd", "\u2215"}}, {"a\\b", []string{"a\\b"}},
		{"/" + strings.Repeat("n", 100), []string{strings.Repeat("n", 100)}},
	} {
		if got := name.Split(c.path); !slices.Equal(got, c.want) {
			t.Errorf("Split(%q) = %q, want %q", c.path, got, c.want)
		}
	}
}

// P4.3: each element, empty ones too, behind a slash.
func TestJoin(t *testing.T) {
	for _, c := range []struct {
		list []string
		want string
	}{
		{nil, "/"}, {[]string{}, "/"},
		{[]string{"a"}, "/a"}, {[]string{"a", "b"}, "/a/b"}, {[]string{"b", "a", "b"}, "/b/a/b"}, {[]string{".", ".."}, "/./.."},
		{[]string{""}, "/"}, {[]string{"", ""}, "//"}, {[]string{"", "a"}, "//a"}, {[]string{"a", ""}, "/a/"}, {[]string{"a", "", "b"}, "/a//b"},
		{[]string{"/"}, "//"}, {[]string{"a/b", "c"}, "/a/b/c"}, {[]string{"/a/"}, "//a/"}, {[]string{"a b", "\x00", "\xff", "%"}, "/a b/\x00/\xff/%"},
	} {
		if got := name.Join(c.list); got != c.want {
			t.Errorf("Join(%q) = %q, want %q", c.list, got, c.want)
		}
	}
}

// P4.5: names come back from the path that is made of them, and unlike lists make unlike paths.
func TestNamesComeBack(t *testing.T) {
	chance := rand.New(rand.NewSource(3))
	lists := map[string][]string{}
	for range 50000 {
		list := []string{}
		for range chance.Intn(4) {
			if s := anyText(chance); name.Check(s) == api.StOK {
				list = append(list, s)
			}
		}
		was := slices.Clone(list)
		path := name.Join(list)
		if got := name.Split(path); !slices.Equal(got, list) {
			t.Fatalf("%q came back as %q from %q", list, got, path)
		}
		if !slices.Equal(list, was) {
			t.Fatalf("Join changed %q to %q", was, list)
		}
		if other, is := lists[path]; is && !slices.Equal(other, list) {
			t.Fatalf("%q and %q make %q", other, list, path)
		}
		lists[path] = list
	}
}

// Results are new: what is done to one list is not seen in another.
func TestListsAreTheirOwn(t *testing.T) {
	one, two := name.Split("/a/b"), name.Split("/a/b")
	one[0] = "c"
	_ = append(one[:1], "d")
	if !slices.Equal(two, []string{"a", "b"}) || !slices.Equal(name.Split("/a/b"), two) {
		t.Errorf("%q", two)
	}
}

// P1: every call ends and none panics, whatever it is given.
func TestNoCallPanics(t *testing.T) {
	texts := []string{"", "%", "\x00", "\xff", "/", strings.Repeat("/", 1<<20), strings.Repeat("%", 1<<20), strings.Repeat("%2", 1<<20), strings.Repeat("\xff", 1<<20), strings.Repeat("a/", 1<<20), strings.Repeat("\u00a0ż", 1<<18)}
	for b := range 256 {
		for _, more := range []string{"", "%", "%2", "\xff", "/"} {
			texts = append(texts, string([]byte{byte(b)})+more, more+string([]byte{byte(b)}), "%"+string([]byte{byte(b)})+more)
		}
	}
	for _, s := range texts {
		name.Check(s)
		name.Target(s)
		name.Read(s)
		if got, err := name.Read(name.Show(s)); got != s || err != api.OK {
			t.Errorf("%.40q came back as %.40q, %d", s, got, err)
		}
		list := name.Split(s)
		if got := name.Split(name.Join(list)); !slices.Equal(got, list) {
			t.Errorf("%.40q split came back as %d parts", s, len(got))
		}
		name.Join([]string{s, s})
	}
}
