package index

import (
	"slices"

	"posthouse/api"
	"posthouse/rec"
)

// change makes of a cache what it is after a change, and tells whether it did: a change that is refused is not made. The lists are changed where they are, so they have to be the caller's own.
func change(c *api.Cache, x api.Change) bool {
	if rec.Check(x) != api.OK {
		return false
	}
	switch x.Kind {
	case api.ChHold:
		return addHandle(c, api.Held{Epoch: x.Epoch, Serial: x.Serial, Up: x.Up})
	case api.ChFree:
		return drop(&c.Helds, handle(x.Epoch, x.Serial))
	case api.ChFile:
		put(&c.Files, api.Cached{Up: x.Up, Attr: x.Attr}, fileOrder)
		return true
	case api.ChGone:
		return bare(c, x.Up) && drop(&c.Files, file(x.Up))
	case api.ChBare:
		return bare(c, x.Up)
	case api.ChName:
		return setName(c, api.Known{Dir: x.Up, Name: x.Name, Up: x.Child})
	case api.ChUnname:
		return drop(&c.Names, nameIn(x.Up, x.Name))
	case api.ChBlock:
		return setBlock(c, api.Placed{Up: x.Up, No: x.No, Slot: x.Slot})
	case api.ChUnblock:
		return drop(&c.Blocks, block(x.Up, x.No))
	}
	return false
}

// addHandle adds a handle, if there is no such one, and none that stands for the same.
func addHandle(c *api.Cache, h api.Held) bool {
	if slices.ContainsFunc(c.Helds, handle(h.Epoch, h.Serial)) || slices.ContainsFunc(c.Helds, handleFor(h.Up)) {
		return false
	}
	put(&c.Helds, h, handleOrder)
	return true
}

// bare takes away the names and the blocks of a file, if there is one.
func bare(c *api.Cache, up string) bool {
	if !slices.ContainsFunc(c.Files, file(up)) {
		return false
	}
	drop(&c.Names, func(n api.Known) bool { return n.Dir == up })
	drop(&c.Blocks, func(b api.Placed) bool { return b.Up == up })
	return true
}

// setName lets a name name something, or nothing, if there is the file whose name it is.
func setName(c *api.Cache, n api.Known) bool {
	if !slices.ContainsFunc(c.Files, file(n.Dir)) {
		return false
	}
	put(&c.Names, n, nameOrder)
	return true
}

// setBlock lays a block into a slot, if there is the file whose block it is, and no other block is there.
func setBlock(c *api.Cache, b api.Placed) bool {
	inItsWay := func(other api.Placed) bool { return other.Slot == b.Slot && blockOrder(other, b) != 0 }
	if !slices.ContainsFunc(c.Files, file(b.Up)) || slices.ContainsFunc(c.Blocks, inItsWay) {
		return false
	}
	put(&c.Blocks, b, blockOrder)
	return true
}
