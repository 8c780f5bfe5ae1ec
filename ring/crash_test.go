package ring_test

import (
	"math/rand"
	"slices"
	"strconv"
	"testing"

	"posthouse/api"
	"posthouse/disk"
	"posthouse/ring"
)

// kept is which of the pending writes are in a set of bits.
func kept(set, waiting int) (keep []int) {
	for i := range waiting {
		if set&(1<<i) != 0 {
			keep = append(keep, i)
		}
	}
	return keep
}

// whole is how many of the first records have all their pieces in a set of bits, one behind the other.
func whole(set int, records []string) int {
	for n, record := range records {
		for range parts(record) {
			if set&1 == 0 {
				return n
			}
			set >>= 1
		}
	}
	return len(records)
}

// after appends records in a new epoch, with a barrier behind so many of them, and lets the disk crash with what is kept; it returns which records of the journal are there.
func (p *place) after(t *testing.T, d *disk.Disk, old, more []string, safe, set int) []string {
	t.Helper()
	p.epoch++
	r := p.finds(t, "after a crash", d, old...)
	for i, record := range more {
		if i == safe {
			d.Barrier()
		}
		appends(t, "after a crash", r, record, api.OK)
	}
	d.Crash(kept(set, d.Waiting()))
	return slices.Concat(old, more[:safe+whole(set, more[safe:])])
}

// P12.4: three epochs, with each set of pending writes kept in each: what is there is what was appended and kept as a whole, up to the first record that was not.
func TestEachCrash(t *testing.T) {
	first := []string{"a", text("b", 150), "c", "d"}
	lists := [][]string{{text("e", 101), "f"}, {"e", text("f", 101)}, {"e", "f", "g"}, {text("e", 250)}, {text("e", 150), text("f", 150)}}
	for pos := range 9 {
		for set := range 16 {
			for _, second := range lists {
				for next := range 1 << partsOf(second) {
					d, p := newDisk(t, 12), place{2, 9, pos, 10, 1, 1}
					found := p.after(t, d, nil, first, 1, set)
					found = p.after(t, d, found, second[:1], 0, next)
					found = p.after(t, d, found, second[1:], 0, next>>parts(second[0]))
					p.epoch++
					p.finds(t, "at the end", d, found...)
				}
			}
		}
	}
}

// life is a journal to which anything happens, and what is known of it: where it begins, the records that were appended and are not known to be lost, and how many of the first ones are persisted for sure.
type life struct {
	t       *testing.T
	chance  *rand.Rand
	disk    *disk.Disk
	ring    *ring.Ring
	place   place
	records []string
	safe    int
	serial  int
	count   map[string]int
}

// reopen opens the journal in a greater epoch, and holds what is found against what is known.
func (l *life) reopen(crashed bool) {
	l.t.Helper()
	l.place.epoch += 1 + l.chance.Intn(2)
	r, found, err := l.place.open(l.disk)
	if r == nil || err != api.OK || len(found) > len(l.records) || !slices.Equal(found, l.records[:len(found)]) {
		l.t.Fatalf("at %+v: %s, error %d, appended were %s", l.place, listed(found), err, listed(l.records))
	}
	if len(found) < l.safe || !crashed && len(found) < len(l.records) {
		l.t.Fatalf("at %+v: %s, there must be %d", l.place, listed(found), l.safe)
	}
	if len(found) < len(l.records) {
		l.count["some lost"]++
	}
	if len(found) > l.safe {
		l.count["some kept"]++
	}
	l.ring, l.records = r, found
	if crashed {
		l.safe = len(found)
	}
}

// crash lets the disk crash with none, some or all of its pending writes kept, and opens the journal.
func (l *life) crash() {
	l.t.Helper()
	var keep []int
	often := l.chance.Intn(5)
	for i := range l.disk.Waiting() {
		if l.chance.Intn(4) < often {
			keep = append(keep, i)
		}
	}
	l.disk.Crash(keep)
	l.reopen(true)
}

// add appends a record, which has its own text.
func (l *life) add() {
	l.t.Helper()
	l.serial++
	record := text(strconv.Itoa(l.serial)+":", 5+l.chance.Intn(95)+100*l.chance.Intn(3))
	next, pos, room := l.ring.Next(), l.ring.Pos(), l.ring.Room()
	fits, dead := l.ring.Fits(len(record)), l.disk.Dead()
	switch err := l.ring.Append(record); {
	case err == api.OK && fits && !dead:
		l.records = append(l.records, record)
		l.count["appended"]++
	case err == api.ErrFull && !fits:
		shows(l.t, "full", l.ring, next, pos, room)
		l.count["full"]++
	case err == api.ErrDown && fits && l.disk.Dead():
		shows(l.t, "down", l.ring, next, pos, room)
		l.count["down"]++
	default:
		l.t.Fatalf("Append of %d bytes with Room %d: error %d", len(record), room, err)
	}
}

// step lets one thing happen.
func (l *life) step() {
	l.t.Helper()
	switch n := l.chance.Intn(30); {
	case n < 14:
		l.add()
	case n < 19:
		if l.disk.Barrier() == api.OK {
			l.safe = len(l.records)
		}
	case n < 21:
		l.ring.Clear()
		l.place.pos, l.place.seq, l.place.since = l.ring.Pos(), l.ring.Next(), l.place.epoch
		l.records, l.safe = nil, 0
		l.count["cleared"]++
	case n < 23:
		l.disk.Arm(l.chance.Intn(8) - 1)
	case n < 25 && !l.disk.Dead():
		l.reopen(false)
	case n >= 25 || l.disk.Dead():
		l.crash()
	}
	l.place.showsRecords(l.t, "a step", l.ring, l.records)
}

// P12.4, P12.5: many orders of opening, appending, barriers, fuses, Clear and crashes.
func TestManyLives(t *testing.T) {
	count := map[string]int{}
	for n := range 1500 {
		chance := rand.New(rand.NewSource(int64(n)))
		size := 3 + chance.Intn(10)
		l := &life{t: t, chance: chance, disk: newDisk(t, size), count: count}
		l.place = place{chance.Intn(3), 0, 0, 1 + chance.Intn(3), 1, 0}
		l.place.count = size - l.place.from
		l.place.pos = chance.Intn(l.place.count)
		l.reopen(true)
		for range 80 {
			l.step()
		}
		l.crash()
	}
	for _, name := range []string{"appended", "full", "down", "cleared", "some lost", "some kept"} {
		if count[name] < 1000 {
			t.Errorf("%s: %d times", name, count[name])
		}
	}
}
