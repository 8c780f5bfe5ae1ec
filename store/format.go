package store

import (
	"posthouse/api"
	"posthouse/disk"
	"posthouse/head"
	"posthouse/image"
)

// Format lets a disk have an empty store. The cache goes into the area that was not named, and the header ahead of the journal's zero bytes: wherever the disk fails, there is the store that was there, as it was, or the new one, since whose epoch no record is.
func Format(d *disk.Disk, c api.Config) api.Errno {
	var h api.Head
	empty := text(api.Cache{})
	return inTurn(
		func() api.Errno { return refusal(d, c) },
		func() (err api.Errno) {
			h, err = first(d, len(empty))
			return err
		},
		func() api.Errno { return image.Write(d, areaAt(c, h.Area), areaSectors(c), empty) },
		d.Barrier,
		func() api.Errno {
			_, err := head.Save(d, headAt, h)
			return err
		},
		func() api.Errno { return blank(d, journalAt, c.Ring) },
		d.Barrier,
	)
}

// first is the header of a new store, whose cache's text has that size.
func first(d *disk.Disk, size int) (api.Head, api.Errno) {
	area := 0
	switch was, err := head.Find(d, headAt); err {
	case api.OK:
		area = other(was.Area)
	case api.ErrNone:
	default:
		return api.Head{}, err
	}
	epoch := 1 + max(epochAt(d, headAt), epochAt(d, headAt+1))
	return api.Head{Epoch: epoch, Since: epoch, Area: area, Size: size, Next: 1}, api.OK
}

// epochAt is the epoch of the header in a sector, 0 if there is none.
func epochAt(d *disk.Disk, i int) int {
	s, _ := d.Read(i)
	h, _ := head.Get(s)
	return h.Epoch
}

// blank lets zero bytes wait in so many sectors.
func blank(d *disk.Disk, from, count int) api.Errno {
	for i := range count {
		if err := d.Write(from+i, ""); err != api.OK {
			return err
		}
	}
	return api.OK
}
