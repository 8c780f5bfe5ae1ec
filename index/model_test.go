package index_test

import (
	"cmp"
	"maps"
	"math"
	"slices"
	"strings"

	"posthouse/api"
)

// high is the highest 32-bit number, and place the highest number of a block and of a slot.
const (
	high  = 1<<32 - 1
	place = 65535
)

// What finds an element of each list but Files.
type (
	handleKey struct{ epoch, serial int }
	nameKey   struct{ dir, name string }
	blockKey  struct {
		up string
		no int
	}
)

// model is a valid cache by the chapter's words: what is found by what.
type model struct {
	helds  map[handleKey]string
	files  map[string]api.Attr
	names  map[nameKey]string
	blocks map[blockKey]int
}

// modelOf is the model of a cache.
func modelOf(c api.Cache) model {
	m := model{map[handleKey]string{}, map[string]api.Attr{}, map[nameKey]string{}, map[blockKey]int{}}
	for _, h := range c.Helds {
		m.helds[handleKey{h.Epoch, h.Serial}] = h.Up
	}
	for _, f := range c.Files {
		m.files[f.Up] = f.Attr
	}
	for _, n := range c.Names {
		m.names[nameKey{n.Dir, n.Name}] = n.Up
	}
	for _, b := range c.Blocks {
		m.blocks[blockKey{b.Up, b.No}] = b.Slot
	}
	return m
}

// cache is the cache of a model, its lists in order.
func (m model) cache() (c api.Cache) {
	for k, up := range m.helds {
		c.Helds = append(c.Helds, api.Held{Epoch: k.epoch, Serial: k.serial, Up: up})
	}
	for up, a := range m.files {
		c.Files = append(c.Files, api.Cached{Up: up, Attr: a})
	}
	for k, up := range m.names {
		c.Names = append(c.Names, api.Known{Dir: k.dir, Name: k.name, Up: up})
	}
	for k, slot := range m.blocks {
		c.Blocks = append(c.Blocks, api.Placed{Up: k.up, No: k.no, Slot: slot})
	}
	return sorted(c)
}

// sorted is a cache with its lists in order.
func sorted(c api.Cache) api.Cache {
	c = copied(c)
	slices.SortFunc(c.Helds, byHandle)
	slices.SortFunc(c.Files, byFile)
	slices.SortFunc(c.Names, byName)
	slices.SortFunc(c.Blocks, byBlock)
	return c
}

func byHandle(a, b api.Held) int {
	if a.Epoch != b.Epoch {
		return cmp.Compare(a.Epoch, b.Epoch)
	}
	return cmp.Compare(a.Serial, b.Serial)
}

func byFile(a, b api.Cached) int { return byBytes(a.Up, b.Up) }

func byName(a, b api.Known) int {
	if a.Dir != b.Dir {
		return byBytes(a.Dir, b.Dir)
	}
	return byBytes(a.Name, b.Name)
}

func byBlock(a, b api.Placed) int {
	if a.Up != b.Up {
		return byBytes(a.Up, b.Up)
	}
	return cmp.Compare(a.No, b.No)
}

// byBytes compares two strings byte by byte: of which one is the beginning of the other, that one is ahead.
func byBytes(a, b string) int {
	for i := 0; i < len(a) && i < len(b); i++ {
		if a[i] != b[i] {
			return int(a[i]) - int(b[i])
		}
	}
	return len(a) - len(b)
}

// apply changes the model by the chapter's words, or tells that the change, which is valid or not, is refused.
func (m model) apply(x api.Change) bool {
	if !validChange(x) {
		return false
	}
	_, isFile := m.files[x.Up]
	switch x.Kind {
	case api.ChHold:
		_, is := m.helds[handleKey{x.Epoch, x.Serial}]
		if is || slices.Contains(slices.Collect(maps.Values(m.helds)), x.Up) {
			return false
		}
		m.helds[handleKey{x.Epoch, x.Serial}] = x.Up
	case api.ChFree:
		return remove(m.helds, handleKey{x.Epoch, x.Serial})
	case api.ChFile:
		m.files[x.Up] = x.Attr
	case api.ChGone, api.ChBare:
		if x.Kind == api.ChGone {
			delete(m.files, x.Up)
		}
		maps.DeleteFunc(m.names, func(k nameKey, _ string) bool { return k.dir == x.Up })
		maps.DeleteFunc(m.blocks, func(k blockKey, _ int) bool { return k.up == x.Up })
		return isFile
	case api.ChName:
		if isFile {
			m.names[nameKey{x.Up, x.Name}] = x.Child
		}
		return isFile
	case api.ChUnname:
		return remove(m.names, nameKey{x.Up, x.Name})
	case api.ChBlock:
		for k, slot := range m.blocks {
			if slot == x.Slot && k != (blockKey{x.Up, x.No}) {
				return false
			}
		}
		if isFile {
			m.blocks[blockKey{x.Up, x.No}] = x.Slot
		}
		return isFile
	case api.ChUnblock:
		return remove(m.blocks, blockKey{x.Up, x.No})
	}
	return true
}

// remove takes a key out of a map, and tells whether it was there.
func remove[K comparable, V any](m map[K]V, k K) bool {
	_, is := m[k]
	delete(m, k)
	return is
}

// validAttr tells by the words of the attributes' chapter whether they are valid.
func validAttr(a api.Attr) bool {
	narrow := func(n int) bool { return n >= 0 && n <= high }
	return a.Type >= 1 && a.Type <= 7 && a.Mode >= 0 && a.Mode <= 4095 && narrow(a.Nlink) && narrow(a.Uid) && narrow(a.Gid) &&
		a.Size >= 0 && narrow(a.Id) && a.Gen >= 0 && a.Change >= 0 && a.Time >= 0
}

// validChange tells by the words of the records' chapter whether a change is valid.
func validChange(x api.Change) bool {
	fields := [...]string{"", "Epoch Serial Up", "Epoch Serial", "Up Attr", "Up", "Up", "Up Name Child", "Up Name", "Up No Slot", "Up No"}
	if x.Kind < 1 || x.Kind >= len(fields) {
		return false
	}
	has := func(name string) bool { return slices.Contains(strings.Fields(fields[x.Kind]), name) }
	number := func(name string, n, least, most int) bool {
		return has(name) && n >= least && n <= most || !has(name) && n == 0
	}
	text := func(name, s string, least, most int) bool {
		return has(name) && len(s) >= least && len(s) <= most || !has(name) && s == ""
	}
	return number("Epoch", x.Epoch, 1, high) && number("Serial", x.Serial, 1, math.MaxInt) &&
		text("Up", x.Up, 1, 64) && text("Name", x.Name, 1, 255) && text("Child", x.Child, 0, 64) &&
		(has("Attr") && validAttr(x.Attr) || !has("Attr") && x.Attr == (api.Attr{})) &&
		number("No", x.No, 0, place) && number("Slot", x.Slot, 0, place)
}

// pairs tells whether something holds for each element of a list and each one behind it.
func pairs[T any](l []T, holds func(a, b T) bool) bool {
	for i, a := range l {
		for _, b := range l[i+1:] {
			if !holds(a, b) {
				return false
			}
		}
	}
	return true
}

// validCache tells by the chapter's words whether a cache is valid: it holds each element against all those behind it.
func validCache(c api.Cache) bool {
	isFile := func(up string) bool {
		return slices.ContainsFunc(c.Files, func(f api.Cached) bool { return f.Up == up })
	}
	for _, n := range c.Names {
		if !isFile(n.Dir) {
			return false
		}
	}
	for _, b := range c.Blocks {
		if !isFile(b.Up) {
			return false
		}
	}
	for _, x := range makes(c) {
		if !validChange(x) {
			return false
		}
	}
	return pairs(c.Helds, func(a, b api.Held) bool { return byHandle(a, b) < 0 && a.Up != b.Up }) &&
		pairs(c.Files, func(a, b api.Cached) bool { return byFile(a, b) < 0 }) &&
		pairs(c.Names, func(a, b api.Known) bool { return byName(a, b) < 0 }) &&
		pairs(c.Blocks, func(a, b api.Placed) bool { return byBlock(a, b) < 0 && a.Slot != b.Slot })
}

// makes is the changes that make a cache, by the words of the records' chapter.
func makes(c api.Cache) (l []api.Change) {
	for _, h := range c.Helds {
		l = append(l, api.Change{Kind: api.ChHold, Epoch: h.Epoch, Serial: h.Serial, Up: h.Up})
	}
	for _, f := range c.Files {
		l = append(l, api.Change{Kind: api.ChFile, Up: f.Up, Attr: f.Attr})
	}
	for _, n := range c.Names {
		l = append(l, api.Change{Kind: api.ChName, Up: n.Dir, Name: n.Name, Child: n.Up})
	}
	for _, b := range c.Blocks {
		l = append(l, api.Change{Kind: api.ChBlock, Up: b.Up, No: b.No, Slot: b.Slot})
	}
	return l
}
