package index

import (
	"cmp"
	"strings"

	"posthouse/api"
)

// handle asks for the handle with an epoch and a serial number.
func handle(epoch, serial int) func(api.Held) bool {
	return func(h api.Held) bool { return h.Epoch == epoch && h.Serial == serial }
}

// handleFor asks for the handle that stands for something.
func handleFor(up string) func(api.Held) bool {
	return func(h api.Held) bool { return h.Up == up }
}

// file asks for a file.
func file(up string) func(api.Cached) bool {
	return func(f api.Cached) bool { return f.Up == up }
}

// nameIn asks for a name in a directory.
func nameIn(dir, name string) func(api.Known) bool {
	return func(n api.Known) bool { return n.Dir == dir && n.Name == name }
}

// block asks for a block of a file.
func block(up string, no int) func(api.Placed) bool {
	return func(b api.Placed) bool { return b.Up == up && b.No == no }
}

func handleOrder(a, b api.Held) int {
	return cmp.Or(cmp.Compare(a.Epoch, b.Epoch), cmp.Compare(a.Serial, b.Serial))
}

func fileOrder(a, b api.Cached) int {
	return strings.Compare(a.Up, b.Up)
}

func nameOrder(a, b api.Known) int {
	return cmp.Or(strings.Compare(a.Dir, b.Dir), strings.Compare(a.Name, b.Name))
}

func blockOrder(a, b api.Placed) int {
	return cmp.Or(strings.Compare(a.Up, b.Up), cmp.Compare(a.No, b.No))
}

// inOrder tells whether all lists of a cache ascend.
func inOrder(c api.Cache) bool {
	return ascends(c.Helds, handleOrder) && ascends(c.Files, fileOrder) && ascends(c.Names, nameOrder) && ascends(c.Blocks, blockOrder)
}

// apart tells whether no two handles of a cache stand for the same, and no two blocks are in one slot.
func apart(c api.Cache) bool {
	return differ(c.Helds, func(h api.Held) string { return h.Up }) && differ(c.Blocks, func(b api.Placed) int { return b.Slot })
}

// ofFiles tells whether all names and all blocks of a cache are those of its files.
func ofFiles(c api.Cache) bool {
	files := values(c.Files, func(f api.Cached) string { return f.Up })
	names := values(c.Names, func(n api.Known) string { return n.Dir })
	blocks := values(c.Blocks, func(b api.Placed) string { return b.Up })
	return len(without(names, files)) == 0 && len(without(blocks, files)) == 0
}
