package perm_test

import (
	"math"
	"strings"
	"testing"

	"posthouse/api"
	"posthouse/perm"
)

// node is attributes of the user 7 and the group 8.
func node(kind, mode int) api.Attr {
	return api.Attr{Type: kind, Mode: mode, Nlink: 1, Uid: 7, Gid: 8, Size: 1, Id: 1, Gen: 1, Change: 1, Time: 1}
}

// class is users of one kind, and by how much a mode is shifted to have their bits lowest (-1: they have all bits).
type class struct {
	name  string
	users []api.Cred
	shift int
}

func classes() []class {
	return []class{
		{"Uid 0", []api.Cred{{Uid: 0, Gid: 0}, {Uid: 0, Gid: 8}, {Uid: 0, Gid: 9}, {Client: 7, Seq: 7, Uid: 0, Gid: 7}}, -1},
		{"the node's Uid", []api.Cred{{Uid: 7, Gid: 9}, {Uid: 7, Gid: 0}, {Uid: 7, Gid: 7}}, 6},
		{"both", []api.Cred{{Uid: 7, Gid: 8}}, 6},
		{"the node's Gid", []api.Cred{{Uid: 9, Gid: 8}, {Uid: 8, Gid: 8}, {Client: 7, Seq: 7, Uid: 1, Gid: 8}}, 3},
		{"neither", []api.Cred{{Uid: 9, Gid: 9}, {Uid: 8, Gid: 7}, {Uid: 9, Gid: 0}, {Uid: 9, Gid: 7}, {Client: 7, Seq: 8, Uid: 1, Gid: 1}, {Uid: -7, Gid: -8}, {Uid: math.MinInt, Gid: math.MaxInt}}, 0},
	}
}

// modes is all of the nine bits, alone and with bits above them, the highest among them.
func modes() []int {
	var list []int
	for mode := range 512 {
		list = append(list, mode, mode|0o1000, mode|0o7000, mode|1<<40, mode-512, mode+math.MinInt, mode+math.MaxInt-511)
	}
	return list
}

// bits is what the nine lowest bits of a mode are for a class.
func bits(mode, shift int) int {
	if shift < 0 {
		return 7
	}
	return int(uint(mode) >> shift % 8)
}

// P6.1: the bits are those of the first class to which a user belongs.
func TestBits(t *testing.T) {
	if perm.Read != 4 || perm.Write != 2 || perm.Exec != 1 {
		t.Fatalf("%d, %d, %d", perm.Read, perm.Write, perm.Exec)
	}
	for _, c := range classes() {
		for _, by := range c.users {
			for _, mode := range modes() {
				want := bits(mode, c.shift)
				for _, kind := range []int{api.TypeReg, api.TypeDir, 0, 8} {
					if got := perm.Bits(node(kind, mode), by); got != want {
						t.Fatalf("%s: Bits of mode %o, for %v: %o, want %o", c.name, mode, by, got, want)
					}
				}
			}
		}
	}
}

// P6.1: each class by numbers that are written out; a class that comes first may have fewer bits than those behind it.
func TestBitsOfSomeModes(t *testing.T) {
	for _, c := range []struct {
		mode                       int
		root, owner, group, others int
	}{
		{0, 7, 0, 0, 0}, {0o777, 7, 7, 7, 7}, {0o640, 7, 6, 4, 0}, {0o421, 7, 4, 2, 1}, {0o124, 7, 1, 2, 4}, {0o077, 7, 0, 7, 7}, {0o707, 7, 7, 0, 7}, {0o770, 7, 7, 7, 0}, {0o7000, 7, 0, 0, 0}, {-1, 7, 7, 7, 7}, {-512, 7, 0, 0, 0},
	} {
		for _, u := range []struct{ uid, gid, want int }{{0, 9, c.root}, {0, 8, c.root}, {7, 9, c.owner}, {7, 8, c.owner}, {9, 8, c.group}, {9, 9, c.others}} {
			if got := perm.Bits(node(1, c.mode), api.Cred{Uid: u.uid, Gid: u.gid}); got != u.want {
				t.Errorf("Bits of mode %o for %d, %d: %o, want %o", c.mode, u.uid, u.gid, got, u.want)
			}
		}
	}
	// The node of the user 0, in the group 0: whoever is in the group is not that user.
	zero := api.Attr{Type: 1, Mode: 0o124}
	if perm.Bits(zero, api.Cred{}) != 7 || perm.Bits(zero, api.Cred{Uid: 1}) != 2 || perm.Bits(zero, api.Cred{Gid: 1}) != 7 || perm.Bits(zero, api.Cred{Uid: 1, Gid: 1}) != 4 {
		t.Error("the node of the user 0")
	}
}

// wants is the eight wants, each alone and with bits above the three, the sign among them.
func wants() []int {
	var list []int
	for want := range 8 {
		list = append(list, want, want|8, want|0o770, want-8, want+math.MinInt, want+math.MaxInt-7)
	}
	return list
}

// P6.1, P6.4: all of the three lowest bits of a want must be there, none above them, and with some bits each part of them.
func TestMay(t *testing.T) {
	for _, c := range classes() {
		for _, by := range c.users {
			for mode := range 512 {
				a, have := node(1, mode), bits(mode, c.shift)
				for _, want := range wants() {
					all := true
					for _, bit := range []int{1, 2, 4} {
						if want&bit != 0 && have&bit == 0 {
							all = false
						}
					}
					if got := perm.May(a, by, want); got != all {
						t.Fatalf("%s: May with mode %o, for %v, want %d: %t", c.name, mode, by, want, got)
					}
				}
				for want := range 8 {
					for part := range 8 {
						if part&want == part && perm.May(a, by, want) && !perm.May(a, by, part) {
							t.Fatalf("%s: May with mode %o is true of %d, not of %d", c.name, mode, want, part)
						}
					}
				}
			}
		}
	}
	if !perm.May(node(1, 0), api.Cred{Uid: 9, Gid: 9}, 0) || !perm.May(node(1, 0), api.Cred{Uid: 9, Gid: 9}, 8) || perm.May(node(1, 0), api.Cred{Uid: 9, Gid: 9}, 9) {
		t.Error("wants of nothing")
	}
}

// P6.1: owners are the user 0 and the node's, whatever the groups and the mode are.
func TestOwns(t *testing.T) {
	for _, c := range classes() {
		for _, by := range c.users {
			for _, mode := range []int{0, 0o777, 0o070, -1} {
				if got := perm.Owns(node(2, mode), by); got != (c.shift < 0 || c.shift == 6) {
					t.Errorf("%s: Owns for %v: %t", c.name, by, got)
				}
			}
		}
	}
	zero := api.Attr{Type: 1}
	if !perm.Owns(zero, api.Cred{}) || perm.Owns(zero, api.Cred{Uid: 1}) || !perm.Owns(zero, api.Cred{Gid: 1}) {
		t.Error("the node of the user 0")
	}
}

// kinds is every Type, and numbers that are none.
func kinds() []int {
	return []int{0, 1, 2, 3, 4, 5, 6, 7, 8, 9, -1, -2, 256 + 2, math.MinInt, math.MaxInt}
}

// P6.2: what each combination of permission bits gives, for a directory and for any other node.
func TestAccess(t *testing.T) {
	directory := [8]int{0, 2, 28, 30, 1, 3, 29, 31}
	other := [8]int{0, 32, 12, 44, 1, 33, 13, 45}
	for _, kind := range kinds() {
		table := other
		if kind == api.TypeDir {
			table = directory
		}
		for _, c := range classes() {
			for _, by := range c.users {
				for mode := range 512 {
					a, has := node(kind, mode), table[bits(mode, c.shift)]
					for _, asked := range []int{0, 1, 2, 4, 8, 16, 32, 63, 31, 45, 3, 12, 28, 36, -1, 64, 128, 1 << 40, 64 | 1, ^63, ^0 << 5, math.MinInt, math.MaxInt} {
						if got := perm.Access(a, by, asked); got != asked&has {
							t.Fatalf("%s: Access to Type %d with mode %o, for %v, asked %d: %d, want %d", c.name, kind, mode, by, asked, got, asked&has)
						}
					}
				}
			}
		}
	}
}

// P6.2: each access bit alone, by the permission bit that it needs; 0: nobody has it.
func TestAccessBits(t *testing.T) {
	for _, c := range []struct{ asked, directory, other int }{
		{1, perm.Read, perm.Read},
		{2, perm.Exec, 0},
		{4, perm.Write, perm.Write},
		{8, perm.Write, perm.Write},
		{16, perm.Write, 0},
		{32, 0, perm.Exec},
		{64, 0, 0}, {128, 0, 0}, {1 << 31, 0, 0}, {1 << 62, 0, 0}, {math.MinInt, 0, 0},
	} {
		for _, kind := range kinds() {
			needs := c.other
			if kind == api.TypeDir {
				needs = c.directory
			}
			for have := range 8 {
				want := 0
				if needs != 0 && have&needs != 0 {
					want = c.asked
				}
				for _, asked := range []int{c.asked, c.asked | 1<<20} {
					if got := perm.Access(node(kind, have), api.Cred{Uid: 9, Gid: 9}, asked); got != want {
						t.Errorf("Access to Type %d with bits %d, asked %d: %d, want %d", kind, have, asked, got, want)
					}
				}
			}
		}
	}
}

// P6.4: combined requests have the access bits of the single ones together.
func TestAccessTogether(t *testing.T) {
	for _, kind := range kinds() {
		for mode := range 8 {
			a, by := node(kind, mode), api.Cred{Uid: 9, Gid: 9}
			for one := range 128 {
				for two := range 128 {
					if got, want := perm.Access(a, by, one|two), perm.Access(a, by, one)|perm.Access(a, by, two); got != want {
						t.Fatalf("Type %d, mode %o: Access of %d and %d together %d, want %d", kind, mode, one, two, got, want)
					}
				}
				if got := perm.Access(a, by, one); got&^one != 0 {
					t.Fatalf("Type %d, mode %o: Access of %d is %d", kind, mode, one, got)
				}
			}
		}
	}
}

// P6.3: some modes and their texts.
func TestTexts(t *testing.T) {
	for _, c := range []struct {
		mode int
		text string
	}{
		{0o640, "rw-r-----"}, {0, "---------"}, {0o777, "rwxrwxrwx"}, {0o755, "rwxr-xr-x"}, {0o421, "r---w---x"}, {0o124, "--x-w-r--"},
		{0o400, "r--------"}, {0o200, "-w-------"}, {0o100, "--x------"}, {0o040, "---r-----"}, {0o020, "----w----"}, {0o010, "-----x---"}, {0o004, "------r--"}, {0o002, "-------w-"}, {0o001, "--------x"},
	} {
		if got := perm.Show(c.mode); got != c.text {
			t.Errorf("Show(%o) = %q, want %q", c.mode, got, c.text)
		}
		if got, err := perm.Mode(c.text); got != c.mode || err != api.OK {
			t.Errorf("Mode(%q) = %o, %d, want %o", c.text, got, err, c.mode)
		}
	}
}

// P6.3: each mode comes back from its text; bits above the nine, and the sign, are not shown.
func TestModesComeBack(t *testing.T) {
	texts := map[string]int{}
	for mode := range 512 {
		text := perm.Show(mode)
		texts[text]++
		if got, err := perm.Mode(text); got != mode || err != api.OK {
			t.Errorf("%o came back as %o, %d from %q", mode, got, err, text)
		}
	}
	if len(texts) != 512 {
		t.Errorf("%d texts", len(texts))
	}
	for _, mode := range modes() {
		if got, want := perm.Show(mode), perm.Show(int(uint(mode)%512)); got != want {
			t.Errorf("Show(%d) = %q, want %q", mode, got, want)
		}
	}
}

// P6.3: what is no mode's text.
func TestNoModesText(t *testing.T) {
	for _, s := range []string{
		"", "-", "r", "rwx", "rwxrwx", "--------", "rwxrwxrw", "wxrwxrwx", "----------", "rwxrwxrwx-", "-rwxrwxrwx", "rwxrwxrwxr", "rwxrwxrwx ", " rwxrwxrwx", "rwxrwxrwx\n", "rwxrwxrwx\x00", "rwxrwxrwxrwxrwxrwx", "drwxr-xr-x",
		"wrxrwxrwx", "xwrrwxrwx", "w--------", "x--------", "-r-------", "-x-------", "--r------", "--w------", "------w--", "------x--", "-------r-", "-------x-", "--------r", "--------w",
		"RWXRWXRWX", "Rwxrwxrwx", "rWxrwxrwx", "rwXrwxrwx", "rwxrwxrwX", "--X------", "R--------",
		"rwsrwxrwx", "rwxrwxrwt", "rwxrwsrwx", "--S------", "--------T",
		"rw r     ", "         ", "_________", "rw_r_____", "000000000", "rwx.rwxrw", "rwxrwx+wx", "\x00\x00\x00\x00\x00\x00\x00\x00\x00", "\xff--------", "--------\xff",
		"rwx\u2212\u2212\u2212", "\u2212--------", "ż-------", "640", "0640", "rw-r----", "rw-r------",
	} {
		if mode, err := perm.Mode(s); mode != 0 || err != api.ErrText {
			t.Errorf("Mode(%q) = %o, %d, want ErrText alone", s, mode, err)
		}
	}
	// One byte put in place of each of the nine, of texts with and without the bit: only the other form of the bit is one.
	for _, text := range []string{"rwxrwxrwx", "---------", "rw-r-----"} {
		for i := range text {
			for b := range 256 {
				s := text[:i] + string([]byte{byte(b)}) + text[i+1:]
				want := api.ErrText
				if byte(b) == '-' || byte(b) == "rwxrwxrwx"[i] {
					want = api.OK
				}
				if mode, err := perm.Mode(s); err != want || err == api.OK && perm.Show(mode) != s || err != api.OK && mode != 0 {
					t.Errorf("Mode(%q) = %o, %d", s, mode, err)
				}
			}
		}
	}
}

// P1: every call ends and none panics, whatever it is given.
func TestNoCallPanics(t *testing.T) {
	numbers := []int{math.MinInt, -1 << 32, -1, 0, 1, 2, 7, 8, 9, 511, 512, 1<<32 - 1, 1 << 32, math.MaxInt}
	for _, n := range numbers {
		for _, m := range numbers {
			a := api.Attr{Type: n, Mode: m, Nlink: n, Uid: m, Gid: n}
			for _, by := range []api.Cred{{}, {Uid: n, Gid: m}, {Uid: m, Gid: n}, {Client: n, Seq: m, Uid: n, Gid: n}} {
				if got := perm.Bits(a, by); got&^7 != 0 {
					t.Errorf("Bits(%v, %v) = %d", a, by, got)
				}
				perm.May(a, by, n)
				perm.Owns(a, by)
				perm.Access(a, by, m)
			}
		}
		perm.Show(n)
	}
	for _, s := range []string{"", strings.Repeat("-", 1<<20), strings.Repeat("rwx", 1<<20), strings.Repeat("\xff", 9), strings.Repeat("x", 64), strings.Repeat("-", 64) + "rwxrwxrwx"} {
		if mode, err := perm.Mode(s); mode != 0 || err != api.ErrText {
			t.Errorf("Mode of %d bytes = %o, %d", len(s), mode, err)
		}
	}
}
