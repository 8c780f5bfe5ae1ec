package store_test

import (
	"strconv"
	"strings"
	"testing"

	"posthouse/api"
)

// step is one call, which tells whether it went well.
type step func(p *past) bool

func doing(l ...api.Change) step {
	return func(p *past) bool {
		p.t.Helper()
		return p.do(l...)
	}
}

func putting(up string, no int, data string) step {
	return func(p *past) bool {
		p.t.Helper()
		return p.put(up, no, data)
	}
}

// The other steps; one opens the store again, on a disk that did not crash, so that it must be what it is.
var (
	keeping  step = (*past).barrier
	anew     step = (*past).checkpoint
	reopened step = func(p *past) bool {
		p.t.Helper()
		last := p.now()
		if !p.open("again") {
			return false
		}
		if !last.isNow(p.store) {
			p.t.Fatalf("opened again there is %+v, want %+v", p.store.Cache(), last)
		}
		return true
	}
)

// eight is eight changes of the file f, which take seven positions.
func eight(n int) (l []api.Change) {
	for i := range 8 {
		l = append(l, file("f", n+i))
	}
	return l
}

// series are some of calls: the example; blocks that come, change and go; transactions of several lengths that fill the journal; checkpoints in a row; stores opened again.
func series() map[string][]step {
	one := map[string][]step{
		"the example": {doing(file("f", 1)), keeping, doing(gone("f"))},
		"blocks": {
			doing(file("f", 1), file("g", 1)), putting("f", 0, "a"), putting("g", 0, "b"), putting("f", 0, "c"), doing(unblock("g", 0)),
			putting("f", 1, "d"), putting("f", 0, "e"), keeping, doing(unblock("f", 1)), putting("g", 1, "g"), putting("g", 0, "i"),
			doing(bare("f")), putting("f", 7, "j"), doing(gone("f"), gone("g")), doing(file("f", 2)), putting("f", 0, "k"),
		},
		"a single slot's worth": {
			doing(file("f", 1)), putting("f", 0, "a"), putting("f", 1, "b"), doing(unblock("f", 0)), putting("f", 2, "c"), doing(bare("f")),
			putting("f", 0, "d"), keeping, putting("f", 1, "e"), anew, doing(unblock("f", 0)), putting("f", 3, "f"),
		},
		"long ones": {
			doing(eight(1)...), doing(hold(1, 1, "u")), doing(eight(2)...), doing(eight(3)...), keeping, doing(eight(4)...), doing(free(1, 1), hold(1, 2, "v")), doing(eight(5)...),
		},
		"checkpoints": {
			anew, doing(file("f", 1)), anew, anew, doing(named("f", "a", "g")), doing(hold(1, 1, "u")), anew, putting("f", 1, "data"), anew,
			doing(unblock("f", 1), file("f", 2)), keeping, anew, reopened, anew, doing(file("g", 1)), anew,
		},
		"opened again": {
			doing(file("f", 1)), reopened, doing(file("f", 2)), putting("f", 1, "data"), reopened, reopened, doing(eight(1)...), anew, doing(file("f", 3)), reopened,
			putting("f", 1, "other"), doing(unblock("f", 1)), reopened, putting("f", 1, "third"), putting("f", 2, "fourth"),
		},
	}
	for i := range 20 {
		one["full"] = append(one["full"], doing(file("f", i), file("g", i)))
	}
	for i := range 22 {
		one["full of blocks"] = append(one["full of blocks"], doing(file("f", i)), putting("f", i%2, strings.Repeat("d", i)))
	}
	return one
}

// sets are which of the pending writes are kept: all sets of few; of many none, all, each alone, all but each one, those ahead of each, those behind it, and some.
func sets(waiting int) (l []func(i int) bool) {
	if waiting <= 4 {
		for set := range 1 << waiting {
			l = append(l, func(i int) bool { return set>>i&1 == 1 })
		}
		return l
	}
	l = append(l, func(int) bool { return false }, func(int) bool { return true })
	for at := range waiting {
		l = append(l, func(i int) bool { return i == at }, func(i int) bool { return i != at }, func(i int) bool { return i < at }, func(i int) bool { return i > at })
		l = append(l, func(i int) bool { return (i*i+at*i)%7%2 == 0 })
	}
	return l
}

// run makes the calls of a series, with a disk that fails behind so many writes and barriers; it tells whether all went well.
func (p *past) run(fuse int, l []step) bool {
	p.t.Helper()
	p.disk.Arm(fuse)
	for _, one := range l {
		if !one(p) {
			return false
		}
	}
	return true
}

// copied is a past on another disk that has what is persisted on this one.
func (p *past) copied() *past {
	p.t.Helper()
	q := *p
	q.disk = diskOf(p.t, p.disk.Image())
	return &q
}

// dies lets Open fail at each of its writes and barriers, once with all pending writes kept and once with none; behind that the store is opened as if nothing had been. The last one does not fail.
func (p *past) dies() {
	p.t.Helper()
	for fuse := 0; ; fuse++ {
		for _, keeps := range []bool{false, true} {
			q := p.copied()
			q.disk.Arm(fuse)
			if q.open("opened with a fuse of " + strconv.Itoa(fuse)) {
				return
			}
			q.crash(func(int) bool { return keeps })
			q.mustOpen("behind an Open that failed")
			q.goesOn()
		}
	}
}

// mustOpen opens the store on a disk that does not fail.
func (p *past) mustOpen(name string) {
	p.t.Helper()
	if !p.open(name) {
		p.t.Fatalf("%s: the disk has failed", name)
	}
}

// goesOn makes some more calls in a store that was found, and lets the disk crash again: what was lost does not come back.
func (p *past) goesOn() {
	p.t.Helper()
	for _, one := range []step{doing(file("f", 99)), putting("f", 9, "new"), doing(bare("f")), putting("f", 8, "newer")} {
		if !one(p) {
			p.t.Fatal("the disk has failed")
		}
	}
	p.crash(func(i int) bool { return i == 0 })
	p.mustOpen("once more")
}

// P19.8, P19.9: in each series of calls, a disk that fails at each of its writes and barriers, and then keeps none, some and all of what was pending: what is found is what was there behind one of the transactions, none of those that were persisted is missing, and each block has its data; also when Open fails, and when it goes on.
func TestEachCrash(t *testing.T) {
	count := map[string]int{}
	for name, l := range series() {
		c := api.Config{Handles: 2, Files: 2, Names: 2, Slots: 2, Ring: 16}
		if name == "a single slot's worth" {
			c.Slots = 1
		}
		for fuse, all := 0, false; !all; fuse++ {
			for at, n := 0, 1; at < n; at++ {
				p := newPast(t, c, count)
				all = p.run(fuse, l)
				keeps := sets(p.disk.Waiting())
				n = len(keeps)
				p.crash(keeps[at])
				if at%3 == 0 {
					p.copied().dies()
				}
				p.mustOpen(name + ", a fuse of " + strconv.Itoa(fuse))
				p.goesOn()
			}
		}
	}
	for _, name := range []string{
		"Do", "Put", "Barrier", "Checkpoint", "checkpoints of Do", "full", "failed: Do", "failed: Put", "failed: Barrier", "failed: Checkpoint", "failed: Open",
		"found: no transaction", "found: some of them", "found: all of them",
	} {
		if count[name] < 20 {
			t.Errorf("%s: %d times", name, count[name])
		}
	}
}
