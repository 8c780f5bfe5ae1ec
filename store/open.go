package store

import (
	"posthouse/api"
	"posthouse/disk"
	"posthouse/head"
	"posthouse/image"
	"posthouse/rec"
	"posthouse/ring"
	"posthouse/slots"
)

// Open finds a disk's store. Nothing is written ahead of the header: the barrier behind it has the disk keep all that was found, too.
func Open(d *disk.Disk, c api.Config) (*Store, api.Errno) {
	s := &Store{disk: d, config: c}
	err := inTurn(
		func() api.Errno { return refusal(d, c) },
		s.findHead,
		s.readArea,
		s.readJournal,
		func() api.Errno { return s.save(s.head) },
		s.useSlots,
	)
	if err != api.OK {
		return nil, err
	}
	return s, api.OK
}

// findHead finds the header, and begins the next epoch.
func (s *Store) findHead() (err api.Errno) {
	s.head, err = head.Find(s.disk, headAt)
	s.head.Epoch++
	return err
}

// readArea finds the cache that the header names.
func (s *Store) readArea() api.Errno {
	stored, err := image.Read(s.disk, areaAt(s.config, s.head.Area), areaSectors(s.config))
	if err != api.OK {
		return err
	}
	c, is := read(stored)
	if !is || !fits(c, s.config) {
		return api.ErrForm
	}
	s.cache = c
	return api.OK
}

// readJournal finds the journal that begins where the header says, and does its transactions.
func (s *Store) readJournal() api.Errno {
	h := s.head
	journal, records, err := ring.Open(s.disk, journalAt, s.config.Ring, h.Pos, h.Next, h.Since, h.Epoch)
	if err != api.OK {
		// The disk works and has the region, so the header is at fault: no journal begins there, or has this epoch.
		return api.ErrForm
	}
	s.Ring = journal
	for _, record := range records {
		l, err := rec.Get(record)
		now, can := s.after(l)
		if err != api.OK || !can {
			return api.ErrForm
		}
		s.cache = now
	}
	return api.OK
}

// useSlots lets the slots of all blocks be used, and all others be free.
func (s *Store) useSlots() (err api.Errno) {
	s.Slots, err = slots.New(s.config.Slots)
	for _, b := range s.cache.Blocks {
		s.Use(b.Slot)
	}
	return err
}
