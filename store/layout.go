package store

import (
	"posthouse/api"
	"posthouse/disk"
	"posthouse/image"
)

// The first sector of the header, and that of the journal behind it.
const (
	headAt    = 0
	journalAt = 2
)

// Check tells why a config may not be.
func Check(c api.Config) api.Errno {
	if within(c.Handles, 1, 256) && within(c.Files, 1, 64) && within(c.Names, 0, 256) && within(c.Slots, 1, 256) && within(c.Ring, 16, 512) {
		return api.OK
	}
	return api.ErrRange
}

// Sectors is how many sectors a disk must have.
func Sectors(c api.Config) int {
	if Check(c) != api.OK {
		return 0
	}
	return slotAt(c, c.Slots)
}

// refusal tells why a disk has no place for a store, if that is so.
func refusal(d *disk.Disk, c api.Config) api.Errno {
	switch {
	case d == nil:
		return api.ErrNil
	case Check(c) != api.OK:
		return api.ErrRange
	case d.Size() < Sectors(c):
		return api.ErrFull
	}
	return api.OK
}

// areaSectors is how many sectors an area has: those of the longest text of a cache. To that come the bytes of each element as a change, and half a byte more: its part of the eight bytes that stand ahead of each record's changes.
func areaSectors(c api.Config) int {
	elements := c.Handles + c.Files + c.Names + c.Slots
	return image.Sectors(12 + 36*c.Handles + 80*c.Files + 72*c.Names + 32*c.Slots + (elements+1)/2)
}

// areaAt is the first sector of an area; behind the last area are the slots.
func areaAt(c api.Config, area int) int {
	return journalAt + c.Ring + area*areaSectors(c)
}

// slotAt is the sector of a slot; behind the last slot the disk is not the store's.
func slotAt(c api.Config, slot int) int {
	return areaAt(c, 2) + slot
}

// within tells whether a number is in a range.
func within(n, least, most int) bool {
	return least <= n && n <= most
}
