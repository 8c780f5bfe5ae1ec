package store_test

import (
	"slices"
	"testing"

	"posthouse/api"
	"posthouse/disk"
	"posthouse/index"
	"posthouse/store"
)

// unknown is the slot of a block of which it is not known in which slot it would be.
const unknown = -1

// place is what finds a block.
type place struct {
	up string
	no int
}

// moment is a store behind one of its transactions: its cache, and the data of its blocks.
type moment struct {
	cache api.Cache
	data  map[place]string
}

// past is a store and its disk, and what is known of it: what it was behind each of its transactions, from the one behind which it is for sure; and the greatest epoch that it had.
type past struct {
	t       *testing.T
	config  api.Config
	disk    *disk.Disk
	store   *store.Store
	moments []moment
	epoch   int
	count   map[string]int
}

// newPast is the past of a new store.
func newPast(t *testing.T, c api.Config, count map[string]int) *past {
	t.Helper()
	p := &past{t: t, config: c, disk: newDisk(t, planOf(c).all), count: count}
	p.format()
	return p
}

// format lets there be a new store, and opens it.
func (p *past) format() {
	p.t.Helper()
	formats(p.t, p.disk, p.config, api.OK)
	p.moments = []moment{{}}
	p.open("new")
}

func (p *past) now() moment { return p.moments[len(p.moments)-1] }

// with is a moment with other data of a block.
func (m moment) with(c api.Cache, at place, data string) moment {
	next := moment{c, map[place]string{at: data}}
	for k, v := range m.data {
		if k != at {
			next.data[k] = v
		}
	}
	return next
}

// isNow tells whether a store is what it was at that time: its cache, and the data of all blocks that this names.
func (m moment) isNow(s *store.Store) bool {
	got := s.Cache()
	want := api.Cache{Helds: m.cache.Helds, Files: m.cache.Files, Names: m.cache.Names, Blocks: slices.Clone(m.cache.Blocks)}
	for i, b := range want.Blocks {
		if b.Slot == unknown {
			want.Blocks[i].Slot, _ = index.Block(got, b.Up, b.No)
		}
		if data, err := s.Get(b.Up, b.No); err != api.OK || data != m.data[place{b.Up, b.No}] {
			return false
		}
	}
	return equal(got, want) && index.Check(got) == api.OK
}

// open opens the store, which is what it was at one of its moments, and has a greater epoch than ever; it tells whether the disk did not fail.
func (p *past) open(name string) bool {
	p.t.Helper()
	s, err := store.Open(p.disk, p.config)
	if err == api.ErrDown && s == nil && p.disk.Dead() {
		p.count["failed: Open"]++
		return false
	}
	if s == nil || err != api.OK || s.Epoch() <= p.epoch || s.Count() != 0 {
		p.t.Fatalf("%s: Open: store %v, error %d, Epoch %d behind %d, Count %d", name, s != nil, err, s.Epoch(), p.epoch, s.Count())
	}
	i := len(p.moments) - 1
	for i >= 0 && !p.moments[i].isNow(s) {
		i--
	}
	if i < 0 {
		p.t.Fatalf("%s: found %+v, which was at none of %d moments: %+v", name, s.Cache(), len(p.moments), p.moments)
	}
	if len(p.moments) > 1 {
		switch i {
		case 0:
			p.count["found: no transaction"]++
		case len(p.moments) - 1:
			p.count["found: all of them"]++
		default:
			p.count["found: some of them"]++
		}
	}
	// What was found of a disk on which nothing waited is there for sure.
	p.store, p.epoch, p.moments = s, s.Epoch(), p.moments[i:i+1]
	return true
}

// crash lets the disk crash, and keeps those of its pending writes that are asked for.
func (p *past) crash(keeps func(i int) bool) {
	p.t.Helper()
	keep := slices.DeleteFunc(everything(p.disk), func(i int) bool { return !keeps(i) })
	if err := p.disk.Crash(keep); err != api.OK {
		p.t.Fatalf("a crash: error %d", err)
	}
}

// safe forgets the moments ahead of the one that has this many behind it: they do not come back.
func (p *past) safe(behind int) {
	p.moments = p.moments[len(p.moments)-1-behind:]
}

// ended tells whether a call ended well; if not, the disk must have failed.
func (p *past) ended(name string, err api.Errno) bool {
	p.t.Helper()
	if err != api.OK && (err != api.ErrDown || !p.disk.Dead()) {
		p.t.Fatalf("%s: error %d, failed %v, of %+v", name, err, p.disk.Dead(), p.now().cache)
	}
	if err != api.OK {
		p.count["failed: "+name]++
		return false
	}
	if !p.now().isNow(p.store) {
		p.t.Fatalf("%s: there is %+v, want %+v", name, p.store.Cache(), p.now())
	}
	p.count[name]++
	return true
}

// behind is a cache behind changes, and whether they can be done.
func (p *past) behind(c api.Cache, l ...api.Change) (api.Cache, bool) {
	now, is := index.All(c, l)
	return now, is && len(now.Helds) <= p.config.Handles && len(now.Files) <= p.config.Files && len(now.Names) <= p.config.Names
}

// do does changes, if they can be done. One that failed may have happened, as a crash and Open may show.
func (p *past) do(l ...api.Change) bool {
	p.t.Helper()
	now, can := p.behind(p.now().cache, l...)
	if !can || len(l) > 8 {
		keeps(p.t, "refused", p.store, p.disk, func() { does(p.t, "refused", p.store, api.ErrArg, l...) })
		p.count["refused"]++
		return true
	}
	was := headerOf(p.t, p.disk)
	err := p.store.Do(l)
	if err == api.OK && headerOf(p.t, p.disk) != was {
		p.count["checkpoints of Do"]++
	}
	p.moments = append(p.moments, moment{now, p.now().data})
	return p.ended("Do", err)
}

// put lets a block have data, if there is a file for it and a slot. The barrier of one that went well persisted all transactions ahead of it.
func (p *past) put(up string, no int, data string) bool {
	p.t.Helper()
	was := p.now()
	_, is := index.File(was.cache, up)
	switch {
	case !is:
		puts(p.t, "no file", p.store, api.ErrNone, up, no, data)
		return true
	case len(was.cache.Blocks) == p.config.Slots:
		puts(p.t, "full", p.store, api.ErrFull, up, no, data)
		p.count["full"]++
		return true
	}
	err := p.store.Put(up, no, data)
	slot := unknown
	if err == api.OK {
		slot = slotOf(p.t, "Put", p.store, up, no)
	}
	p.moments = append(p.moments, was.with(withBlock(was.cache, up, no, slot), place{up, no}, padded(data)))
	if p.ended("Put", err) {
		p.safe(1)
		return true
	}
	return false
}

// withBlock is a cache with a block in a slot, which may be unknown.
func withBlock(c api.Cache, up string, no, slot int) api.Cache {
	c.Blocks = slices.DeleteFunc(slices.Clone(c.Blocks), func(b api.Placed) bool { return b.Up == up && b.No == no })
	c.Blocks = append(c.Blocks, api.Placed{Up: up, No: no, Slot: slot})
	slices.SortFunc(c.Blocks, func(a, b api.Placed) int {
		switch {
		case a.Up < b.Up, a.Up == b.Up && a.No < b.No:
			return -1
		}
		return 1
	})
	return c
}

// barrier and checkpoint persist all transactions, if they go well.
func (p *past) barrier() bool {
	p.t.Helper()
	if p.ended("Barrier", p.store.Barrier()) {
		p.safe(0)
		return true
	}
	return false
}

func (p *past) checkpoint() bool {
	p.t.Helper()
	if p.ended("Checkpoint", p.store.Checkpoint()) {
		p.safe(0)
		return true
	}
	return false
}
