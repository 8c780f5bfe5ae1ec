package index_test

import (
	"math"
	"slices"
	"strings"
	"testing"

	"posthouse/api"
)

func hold(epoch, serial int, up string) api.Change {
	return api.Change{Kind: api.ChHold, Epoch: epoch, Serial: serial, Up: up}
}

func free(epoch, serial int) api.Change {
	return api.Change{Kind: api.ChFree, Epoch: epoch, Serial: serial}
}

func file(up string, a api.Attr) api.Change {
	return api.Change{Kind: api.ChFile, Up: up, Attr: a}
}

func gone(up string) api.Change { return api.Change{Kind: api.ChGone, Up: up} }
func bare(up string) api.Change { return api.Change{Kind: api.ChBare, Up: up} }

func named(dir, name, child string) api.Change {
	return api.Change{Kind: api.ChName, Up: dir, Name: name, Child: child}
}

func unname(dir, name string) api.Change {
	return api.Change{Kind: api.ChUnname, Up: dir, Name: name}
}

func block(up string, no, slot int) api.Change {
	return api.Change{Kind: api.ChBlock, Up: up, No: no, Slot: slot}
}

func unblock(up string, no int) api.Change {
	return api.Change{Kind: api.ChUnblock, Up: up, No: no}
}

// put is a list with an element that was added at a place, cut one without the element at a place, and set one with another element there; all are in new memory.
func put[T any](l []T, at int, x T) []T { return slices.Insert(slices.Clone(l), at, x) }
func cut[T any](l []T, at int) []T      { return slices.Delete(slices.Clone(l), at, at+1) }

func set[T any](l []T, at int, x T) []T {
	l = slices.Clone(l)
	l[at] = x
	return l
}

// P18.2: the example of the chapter.
func TestExample(t *testing.T) {
	dir := api.Attr{Type: api.TypeDir, Mode: 0o755, Gen: 1}
	only := api.Cache{Files: []api.Cached{{Up: "d", Attr: dir}}}
	does(t, "ChFile of d", api.Cache{}, file("d", dir), only)
	both := with(only, []api.Known{{Dir: "d", Name: "a"}})
	does(t, "ChName of d and a without a child", only, named("d", "a", ""), both)
	does(t, "ChBare of d", both, bare("d"), only)
}

// P18.2: ChHold at an empty cache, ahead of all handles, between two, behind all.
func TestHold(t *testing.T) {
	for _, c := range []api.Cache{{}, none(), {Files: several().Files}} {
		does(t, "the first", c, hold(1, 1, "u"), with(c, []api.Held{{Epoch: 1, Serial: 1, Up: "u"}}))
	}
	places := []struct{ epoch, serial, at int }{{1, 1, 0}, {1, 4, 2}, {1, 9, 2}, {1, 11, 3}, {1, math.MaxInt, 3}, {2, 1, 3}, {2, 2, 3}, {3, 3, 5}, {4, 2, 6}, {5, 1, 6}, {high, math.MaxInt, 6}}
	c := several()
	for _, p := range places {
		for _, up := range []string{"\x00", "u", "aa", "\xff\xff", strings.Repeat("u", 64)} {
			does(t, "one more", c, hold(p.epoch, p.serial, up), with(c, put(c.Helds, p.at, api.Held{Epoch: p.epoch, Serial: p.serial, Up: up})))
		}
	}
}

// P18.2: ChHold is refused if there is a handle with that Epoch and Serial, or with that Up, at whatever place.
func TestHoldRefused(t *testing.T) {
	for _, c := range []api.Cache{oneOfEach(), several()} {
		for _, h := range c.Helds {
			refuses(t, "that handle", c, hold(h.Epoch, h.Serial, "new"))
			refuses(t, "that Up", c, hold(9, 9, h.Up))
			refuses(t, "that Up, ahead", c, hold(1, 1, h.Up))
			refuses(t, "the same", c, hold(h.Epoch, h.Serial, h.Up))
		}
	}
	c := several()
	refuses(t, "the Epoch and Serial of one, the Up of another", c, hold(c.Helds[0].Epoch, c.Helds[0].Serial, c.Helds[5].Up))
}

// P18.2: ChFree of each handle, and of those that are not there.
func TestFree(t *testing.T) {
	for _, c := range []api.Cache{oneOfEach(), several(), {Helds: several().Helds}} {
		for i, h := range c.Helds {
			less := with(c, cut(c.Helds, i))
			does(t, "one less", c, free(h.Epoch, h.Serial), less)
			refuses(t, "once more", less, free(h.Epoch, h.Serial))
			does(t, "there again", less, hold(h.Epoch, h.Serial, h.Up), c)
		}
	}
	for _, c := range append(caches(), api.Cache{Helds: []api.Held{{Epoch: 10, Serial: 11, Up: "a"}}}) {
		for _, x := range []api.Change{free(1, 1), free(1, 4), free(1, 9), free(3, 10), free(2, 1), free(2, 3), free(10, 1), free(11, 10), free(5, 1), free(high, math.MaxInt)} {
			refuses(t, "no such handle", c, x)
		}
	}
}

// P18.2: ChFile of a new file, at an empty cache, ahead of all files, between two, behind all.
func TestFileAdded(t *testing.T) {
	for _, c := range []api.Cache{{}, none(), {Helds: several().Helds}} {
		does(t, "the first", c, file("f", attrOf(1)), with(c, []api.Cached{{Up: "f", Attr: attrOf(1)}}))
	}
	places := []struct {
		up string
		at int
	}{{"\x00", 0}, {"Z", 0}, {"a\x00", 1}, {"aa", 1}, {"ab\x00", 2}, {"abc", 2}, {"az", 2}, {"c", 3}, {"q", 3}, {"\x7f\xff", 4}, {"\x80\x00", 5}, {"\xfe", 5}, {"\xff\x00", 6}, {strings.Repeat("\xff", 64), 6}}
	c := several()
	for _, p := range places {
		does(t, "one more", c, file(p.up, attrOf(9)), with(c, put(c.Files, p.at, api.Cached{Up: p.up, Attr: attrOf(9)})))
	}
}

// P18.2: ChFile of a file that is there sets its attributes, be they other ones or the same, and leaves its names and blocks.
func TestFileSet(t *testing.T) {
	for _, c := range []api.Cache{oneOfEach(), several()} {
		for i, f := range c.Files {
			for _, a := range []api.Attr{attrOf(99), attrOf(0), f.Attr, {Type: api.TypeDir, Change: math.MaxInt}} {
				does(t, "other attributes", c, file(f.Up, a), with(c, set(c.Files, i, api.Cached{Up: f.Up, Attr: a})))
			}
		}
	}
}

// bared is a cache without the names and the blocks of a file.
func bared(c api.Cache, up string) api.Cache {
	c = copied(c)
	c.Names = slices.DeleteFunc(c.Names, func(n api.Known) bool { return n.Dir == up })
	c.Blocks = slices.DeleteFunc(c.Blocks, func(b api.Placed) bool { return b.Up == up })
	return c
}

// P18.2: ChGone and ChBare of each file, with no, one and several names and blocks, beside other files'.
func TestGoneAndBare(t *testing.T) {
	for _, c := range []api.Cache{oneOfEach(), several(), {Files: several().Files}, {Files: several().Files, Names: several().Names}, {Files: several().Files, Blocks: several().Blocks}} {
		for i, f := range c.Files {
			left := bared(c, f.Up)
			does(t, "bare", c, bare(f.Up), left)
			does(t, "bare again", left, bare(f.Up), left)
			less := with(left, cut(left.Files, i))
			does(t, "gone", c, gone(f.Up), less)
			does(t, "gone when it was bare", left, gone(f.Up), less)
			refuses(t, "gone again", less, gone(f.Up))
			refuses(t, "bare when it was gone", less, bare(f.Up))
		}
	}
}

// P18.2: what ChGone and ChBare leave, written out: names of other files, the names that name the file, and its handle.
func TestWhatIsLeft(t *testing.T) {
	c := several()
	names := []api.Known{{Dir: "ab", Name: "x", Up: "a"}, {Dir: "\x80", Name: "\x7f", Up: "a"}, {Dir: "\x80", Name: "\x80"}, {Dir: "\xff", Name: "x", Up: "ab"}}
	blocks := []api.Placed{{Up: "ab", No: 3, Slot: 3}, {Up: "b", No: 0, Slot: 1}, {Up: "\xff", No: 0, Slot: 9}, {Up: "\xff", No: 7, Slot: 2}}
	left := api.Cache{Helds: c.Helds, Files: c.Files, Names: names, Blocks: blocks}
	does(t, "bare", c, bare("a"), left)
	left.Files = c.Files[1:]
	does(t, "gone", c, gone("a"), left)
}

// P18.2: ChGone and ChBare are refused if there is no such file.
func TestGoneAndBareRefused(t *testing.T) {
	for _, c := range caches() {
		for _, up := range []string{"\x00", "A", "a\x00", "aa", "abc", "elsewhere", "q", "z", "\x81", "\xff\xff"} {
			refuses(t, "gone", c, gone(up))
			refuses(t, "bare", c, bare(up))
		}
	}
}

// P18.2: ChName of a new name, ahead of all names, between two, behind all; it names something, or nothing.
func TestNameAdded(t *testing.T) {
	places := []struct {
		dir, name string
		at        int
	}{{"a", "\x00", 0}, {"a", "w", 0}, {"a", "x\x00", 1}, {"a", "xx", 1}, {"a", "xyz", 2}, {"a", "z", 3}, {"a", "\xff", 3}, {"ab", "w", 3}, {"ab", "xy", 4}, {"b", "x", 4}, {"\x7f", "\xff", 4}, {"\x80", "\x00", 4}, {"\x80", "\x7f\x00", 5}, {"\x80", "\x81", 6}, {"\xff", "w", 6}, {"\xff", "x\xff", 7}, {"\xff", strings.Repeat("y", 255), 7}}
	c := several()
	for _, p := range places {
		for _, child := range []string{"", "a", "elsewhere", strings.Repeat("\xff", 64)} {
			does(t, "one more", c, named(p.dir, p.name, child), with(c, put(c.Names, p.at, api.Known{Dir: p.dir, Name: p.name, Up: child})))
		}
	}
	only := api.Cache{Files: oneOfEach().Files}
	does(t, "the first", only, named("f", "n", "u"), with(only, []api.Known{{Dir: "f", Name: "n", Up: "u"}}))
}

// P18.2: ChName of a name that is there lets it name something else, nothing, or the same.
func TestNameSet(t *testing.T) {
	for _, c := range []api.Cache{oneOfEach(), several()} {
		for i, n := range c.Names {
			for _, child := range []string{"", "a", n.Up, n.Dir, "elsewhere", strings.Repeat("u", 64)} {
				does(t, "another child", c, named(n.Dir, n.Name, child), with(c, set(c.Names, i, api.Known{Dir: n.Dir, Name: n.Name, Up: child})))
			}
		}
	}
}

// P18.2: ChName is refused if there is no file Up, be there a handle for it, or a name of it.
func TestNameRefused(t *testing.T) {
	for _, c := range caches() {
		for _, dir := range []string{"\x00", "aa", "abc", "elsewhere", "q", "z", "\x81", "\xff\xff"} {
			refuses(t, "no file", c, named(dir, "x", ""))
			refuses(t, "no file", c, named(dir, "x", "a"))
		}
	}
}

// P18.2: ChUnname of each name, and of those that are not there.
func TestUnname(t *testing.T) {
	for _, c := range []api.Cache{oneOfEach(), several()} {
		for i, n := range c.Names {
			less := with(c, cut(c.Names, i))
			does(t, "one less", c, unname(n.Dir, n.Name), less)
			refuses(t, "once more", less, unname(n.Dir, n.Name))
			does(t, "there again", less, named(n.Dir, n.Name, n.Up), c)
		}
	}
	for _, c := range caches() {
		for _, x := range []api.Change{unname("a", "w"), unname("a", "xx"), unname("x", "a"), unname("a", "\x80"), unname("ab", "xy"), unname("ab", "y"), unname("b", "x"), unname("elsewhere", "y"), unname("f", "f"), unname("n", "f"), unname("\xff\xff", "x")} {
			refuses(t, "no such name", c, x)
		}
	}
}

// P18.2: ChBlock of a new block, ahead of all blocks, between two, behind all.
func TestBlockAdded(t *testing.T) {
	places := []struct {
		up string
		no int
		at int
	}{{"a", 2, 2}, {"a", place - 1, 2}, {"ab", 0, 3}, {"ab", 2, 3}, {"ab", 4, 4}, {"ab", place, 4}, {"b", 1, 5}, {"\x7f", 0, 5}, {"\x80", place, 5}, {"\xff", 1, 6}, {"\xff", 6, 6}, {"\xff", 8, 7}, {"\xff", place, 7}}
	c := several()
	for _, p := range places {
		for _, slot := range []int{4, 6, 100, place - 1} {
			does(t, "one more", c, block(p.up, p.no, slot), with(c, put(c.Blocks, p.at, api.Placed{Up: p.up, No: p.no, Slot: slot})))
		}
	}
	c.Blocks = c.Blocks[1:]
	for _, slot := range []int{5, 6, place - 1} {
		does(t, "ahead of all", c, block("a", 0, slot), with(c, put(c.Blocks, 0, api.Placed{Up: "a", Slot: slot})))
	}
	only := api.Cache{Files: oneOfEach().Files}
	for _, slot := range []int{0, 1, place} {
		for _, no := range []int{0, 1, place} {
			does(t, "the first", only, block("f", no, slot), with(only, []api.Placed{{Up: "f", No: no, Slot: slot}}))
		}
	}
}

// P18.2: ChBlock of a block that is there puts it into another slot, or into the one in which it is already.
func TestBlockSet(t *testing.T) {
	for _, c := range []api.Cache{oneOfEach(), several()} {
		for i, b := range c.Blocks {
			for _, slot := range []int{b.Slot, 4, 100, place - 1} {
				does(t, "another slot", c, block(b.Up, b.No, slot), with(c, set(c.Blocks, i, api.Placed{Up: b.Up, No: b.No, Slot: slot})))
			}
		}
	}
}

// P18.2: ChBlock is refused if there is no file Up, or another block is in that slot: another one of the file, or with that number in another file.
func TestBlockRefused(t *testing.T) {
	for _, c := range caches() {
		for _, up := range []string{"\x00", "aa", "abc", "elsewhere", "q", "z", "\x81", "\xff\xff"} {
			refuses(t, "no file", c, block(up, 0, 0))
			refuses(t, "no file", c, block(up, 7, 100))
		}
		for i, b := range c.Blocks {
			for _, f := range c.Files {
				refuses(t, "new, into a slot that is in use", c, block(f.Up, 50, b.Slot))
			}
			for j, other := range c.Blocks {
				if i != j {
					refuses(t, "into another one's slot", c, block(b.Up, b.No, other.Slot))
				}
			}
		}
	}
	c := api.Cache{Files: several().Files, Blocks: []api.Placed{{Up: "a", No: 1, Slot: 5}}}
	refuses(t, "that number in another file", c, block("ab", 1, 5))
	refuses(t, "another number of the file", c, block("a", 2, 5))
}

// P18.2: ChUnblock of each block, and of those that are not there.
func TestUnblock(t *testing.T) {
	for _, c := range []api.Cache{oneOfEach(), several()} {
		for i, b := range c.Blocks {
			less := with(c, cut(c.Blocks, i))
			does(t, "one less", c, unblock(b.Up, b.No), less)
			refuses(t, "once more", less, unblock(b.Up, b.No))
			does(t, "there again", less, block(b.Up, b.No, b.Slot), c)
		}
	}
	for _, c := range caches() {
		for _, x := range []api.Change{unblock("a", 2), unblock("a", 5), unblock("a", place-1), unblock("ab", 0), unblock("ab", 1), unblock("b", 1), unblock("elsewhere", 0), unblock("f", 0), unblock("\x7f", 0), unblock("\xff\xff", 0)} {
			refuses(t, "no such block", c, x)
		}
	}
}

// P18.2: the slot of a block that is gone, or in another one, takes another block.
func TestSlotThatIsFreeAgain(t *testing.T) {
	c := several()
	moved := with(c, set(c.Blocks, 0, api.Placed{Up: "a", No: 0, Slot: 6}))
	does(t, "moved", c, block("a", 0, 6), moved)
	does(t, "into its slot", moved, block("ab", 3, 5), with(moved, set(moved.Blocks, 3, api.Placed{Up: "ab", No: 3, Slot: 5})))
	less := with(c, cut(c.Blocks, 5))
	does(t, "removed", c, unblock("\xff", 0), less)
	does(t, "into its slot", less, block("\x80", 9, 9), with(less, put(less.Blocks, 5, api.Placed{Up: "\x80", No: 9, Slot: 9})))
}
