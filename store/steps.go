package store

import (
	"slices"

	"posthouse/api"
	"posthouse/head"
	"posthouse/index"
	"posthouse/rec"
)

const (
	most   = 8     // changes of a transaction
	lastNo = 65535 // the highest number of a block
)

// inTurn executes steps, up to the first that fails.
func inTurn(steps ...func() api.Errno) api.Errno {
	for _, step := range steps {
		if err := step(); err != api.OK {
			return err
		}
	}
	return api.OK
}

// transact lets changes be a transaction.
func (s *Store) transact(l []api.Change) api.Errno {
	now, can := s.after(l)
	if !can {
		return api.ErrArg
	}
	// What can be done is valid, and so few changes always have a record.
	record, _ := rec.Put(l)
	return inTurn(
		func() api.Errno { return s.makeSpace(len(record)) },
		func() api.Errno { return s.Append(record) },
		func() api.Errno {
			s.become(now)
			return api.OK
		},
	)
}

// after is the cache behind a transaction, and whether that can be done.
func (s *Store) after(l []api.Change) (api.Cache, bool) {
	if len(l) > most || slices.ContainsFunc(l, tooLong) {
		return api.Cache{}, false
	}
	now, is := index.All(s.cache, l)
	return now, is && fits(now, s.config)
}

// makeSpace makes a checkpoint, if the journal has too little space for a record of so many bytes.
func (s *Store) makeSpace(n int) api.Errno {
	if s.Fits(n) {
		return api.OK
	}
	return s.Checkpoint()
}

// become lets the cache be another one. A slot that it uses no more waits: till a barrier, a crash may bring the block back.
func (s *Store) become(now api.Cache) {
	for _, slot := range index.Lost(s.cache, now) {
		s.Give(slot)
	}
	s.cache = now
	s.count++
}

// freeSlot sees to it that a slot is free: a barrier frees those that wait.
func (s *Store) freeSlot() api.Errno {
	switch free, _, waiting := s.Slots.Count(); {
	case free > 0:
		return api.OK
	case waiting > 0:
		return s.Barrier()
	}
	return api.ErrFull
}

// place lets a block have data, in the slot that the change says. The data is kept ahead of the transaction: whoever finds the one finds the other.
func (s *Store) place(x api.Change, data string) api.Errno {
	return inTurn(
		func() api.Errno { return s.disk.Write(slotAt(s.config, x.Slot), data) },
		s.Barrier,
		func() api.Errno { return s.transact([]api.Change{x}) },
	)
}

// save saves a header, which is the store's then.
func (s *Store) save(h api.Head) api.Errno {
	saved, err := head.Save(s.disk, headAt, h)
	if err == api.OK {
		s.head = saved
	}
	return err
}

// tooLong tells whether a change has a text that is longer than one of a store may be.
func tooLong(x api.Change) bool {
	return len(x.Up) > api.FhSize || len(x.Child) > api.FhSize || len(x.Name) > api.MaxName
}

// fits tells whether a store has room for a cache, and slots for its blocks: as no two are in one slot, there are not too many then.
func fits(c api.Cache, by api.Config) bool {
	noSlot := func(b api.Placed) bool { return b.Slot >= by.Slots }
	return len(c.Helds) <= by.Handles && len(c.Files) <= by.Files && len(c.Names) <= by.Names && !slices.ContainsFunc(c.Blocks, noSlot)
}

// other is the area that is not this one.
func other(area int) int {
	return 1 - area
}
