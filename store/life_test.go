package store_test

import (
	"math/rand"
	"testing"

	"posthouse/api"
)

// life is a store to which anything happens.
type life struct {
	*past
	chance *rand.Rand
}

// up is one of some texts that stand for a node; they are of any length.
func (l *life) up() string {
	return []string{"f", "g", "h", wide(1, 16), wide(2, 16), "ff"}[l.chance.Intn(6)]
}

// change is any one; many are refused.
func (l *life) change() api.Change {
	n, up := l.chance.Intn(4), l.up()
	switch l.chance.Intn(12) {
	case 0, 1:
		return hold(1+n, 1+l.chance.Intn(3), up)
	case 2:
		return free(1+n, 1+l.chance.Intn(3))
	case 3, 4, 5:
		return file(up, l.chance.Intn(1000))
	case 6:
		return gone(up)
	case 7:
		return bare(up)
	case 8, 9:
		return named(up, wide(n, 2+l.chance.Intn(2)*22), []string{"", l.up()}[l.chance.Intn(2)])
	case 10:
		return unname(up, wide(n, 2))
	}
	return unblock(up, n)
}

// changes are some that can mostly be done: each is one that can be done behind those ahead of it, if such a one was soon found.
func (l *life) changes() (all []api.Change) {
	c := l.now().cache
	for range 1 + l.chance.Intn(4)*l.chance.Intn(3) {
		x := l.change()
		for range 9 {
			if next, can := l.behind(c, x); can {
				c = next
				break
			}
			x = l.change()
		}
		all = append(all, x)
	}
	return all
}

// step lets one thing happen; it tells whether the disk did not fail.
func (l *life) step() bool {
	l.t.Helper()
	switch n := l.chance.Intn(100); {
	case n < 60:
		return l.do(l.changes()...)
	case n < 82:
		up := l.up()
		if files := l.now().cache.Files; len(files) > 0 {
			up = files[l.chance.Intn(len(files))].Up
		}
		return l.put(up, l.chance.Intn(4), wide(l.chance.Intn(1000), 2+l.chance.Intn(127)))
	case n < 88:
		return l.barrier()
	case n < 90:
		return l.checkpoint()
	case n < 92:
		return reopened(l.past)
	case n < 97:
		l.disk.Arm(l.chance.Intn(40) - 1)
	case n < 98:
		l.disk.Arm(-1)
		l.format()
	default:
		return false
	}
	return true
}

// recovers lets the disk crash, with none, some or all of its pending writes kept, and opens the store, which may fail for some times.
func (l *life) recovers() {
	l.t.Helper()
	for {
		often := l.chance.Intn(5)
		l.crash(func(int) bool { return l.chance.Intn(4) < often })
		l.disk.Arm(l.chance.Intn(6) - 1)
		if l.open("behind a crash") {
			return
		}
	}
}

// P19.8, P19.9, and all others: many orders of all calls, fuses and crashes, in stores of several sizes.
func TestManyLives(t *testing.T) {
	count := map[string]int{}
	for n := range 300 {
		chance := rand.New(rand.NewSource(int64(n)))
		c := api.Config{Handles: 1 + chance.Intn(5), Files: 1 + chance.Intn(6), Names: chance.Intn(6), Slots: 1 + chance.Intn(7), Ring: 16 + chance.Intn(9)}
		l := &life{newPast(t, c, count), chance}
		for range 150 {
			if !l.step() {
				l.recovers()
			}
		}
	}
	for _, name := range []string{
		"Do", "Put", "Barrier", "Checkpoint", "refused", "full", "checkpoints of Do", "failed: Do", "failed: Put", "failed: Barrier", "failed: Checkpoint", "failed: Open",
		"found: no transaction", "found: some of them", "found: all of them",
	} {
		if count[name] < 50 {
			t.Errorf("%s: %d times", name, count[name])
		}
	}
}
