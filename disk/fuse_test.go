package disk_test

import (
	"math"
	"strings"
	"testing"

	"posthouse/api"
)

// P10.2: a fuse permits so many writes and barriers, and lets the next one fail, which is neither done nor counted.
func TestFuses(t *testing.T) {
	for n := range 5 {
		for _, last := range []string{"write", "barrier"} {
			b := begin(t, 2)
			b.write(0, "before")
			b.arm(n)
			for i := range n {
				if i%2 == 0 {
					b.write(i%2, "permitted")
				} else {
					b.barrier()
				}
			}
			if b.disk.Dead() {
				t.Errorf("a fuse of %d, and the disk has failed behind as many", n)
			}
			if last == "write" {
				refused(t, "one more", b.disk.Write(1, "more"), api.ErrDown)
			} else {
				refused(t, "one more", b.disk.Barrier(), api.ErrDown)
			}
			b.model.dead = true
			b.agree("one more " + last)
			if writes, barriers := b.disk.Count(); writes+barriers != n+1 || !b.disk.Dead() {
				t.Errorf("a fuse of %d: Count %d, %d, Dead %v", n, writes, barriers, b.disk.Dead())
			}
		}
	}
}

// P10.2: a fuse is removed by any number below 0.
func TestFuseIsRemoved(t *testing.T) {
	for _, n := range []int{-1, -2, math.MinInt} {
		for _, old := range []int{0, 1, 2} {
			b := begin(t, 1)
			b.arm(old)
			b.arm(n)
			for range 9 {
				b.write(0, "w")
				b.barrier()
			}
		}
	}
}

// P10.2: a fuse that is set anew counts from its beginning, whatever was left of the old one.
func TestFuseIsSetAnew(t *testing.T) {
	for old := range 4 {
		for n := range 4 {
			b := begin(t, 1)
			b.arm(old)
			for range min(old, 2) {
				b.write(0, "old")
			}
			b.arm(n)
			for range n {
				b.barrier()
			}
			refused(t, "one more than the new fuse permits", b.disk.Barrier(), api.ErrDown)
		}
	}
}

// P10.2: a great fuse does not go off.
func TestGreatFuse(t *testing.T) {
	b := begin(t, 1)
	b.arm(math.MaxInt)
	for range 50 {
		b.write(0, "w")
		b.barrier()
	}
}

// P10.2: neither what is refused nor what only looks uses up a fuse.
func TestFuseIsNotUsedUp(t *testing.T) {
	long := strings.Repeat("l", size+1)
	for n := range 3 {
		b := begin(t, 2)
		b.arm(n)
		for range 3 {
			b.write(-1, "none")
			b.write(2, "none")
			b.write(2, long)
			b.write(1, long)
		}
		for range n {
			b.write(1, "permitted")
		}
		b.write(0, long)
		b.write(-1, "none")
		if b.disk.Dead() {
			t.Errorf("a fuse of %d: a write that was refused made the disk fail", n)
		}
		b.write(0, "one more")
		if !b.disk.Dead() {
			t.Errorf("a fuse of %d: the disk works yet", n)
		}
	}
}

// P10.2: of several errors the first one in the document's order is told.
func TestFirstError(t *testing.T) {
	long := strings.Repeat("l", size+1)
	b := begin(t, 2)
	b.arm(0)
	refused(t, "no such sector, a text too long, a fuse of 0", b.disk.Write(2, long), api.ErrRange)
	refused(t, "no such sector, a fuse of 0", b.disk.Write(-1, "s"), api.ErrRange)
	refused(t, "a text too long, a fuse of 0", b.disk.Write(1, long), api.ErrLong)
	b.agree("refused writes")
	b.write(1, "s")
	refused(t, "failed, no such sector, a text too long", b.disk.Write(2, long), api.ErrDown)
	refused(t, "failed, no such sector", b.disk.Write(-1, "s"), api.ErrDown)
	refused(t, "failed, a text too long", b.disk.Write(1, long), api.ErrDown)
	for _, i := range []int{-1, 0, 1, 2, math.MinInt, math.MaxInt} {
		if got, err := b.disk.Read(i); got != "" || err != api.ErrDown {
			t.Errorf("failed: Read(%d) = %q, error %d", i, got, err)
		}
	}
	b.agree("a disk that has failed")
}

// P10.2, P10.3, P10.4: a disk that has failed does nothing, but tells what it has, till it crashes; then it works, without a fuse.
func TestFailedDisk(t *testing.T) {
	b := begin(t, 3)
	b.write(0, "kept")
	b.barrier()
	b.write(1, "first")
	b.arm(1)
	b.write(2, "second")
	b.barrier()
	for range 3 {
		b.write(0, "nothing")
		b.barrier()
		for _, n := range []int{-1, 0, 1, 9} {
			b.arm(n)
		}
	}
	if !b.disk.Dead() || b.disk.Waiting() != 2 {
		t.Errorf("Dead %v, Waiting %d", b.disk.Dead(), b.disk.Waiting())
	}
	b.crash(1)
	has(t, b.disk, 0, "kept")
	has(t, b.disk, 1, "")
	has(t, b.disk, 2, "second")
	for range 9 {
		b.write(0, "works")
		b.barrier()
	}
}

// P10.3: a crash removes a fuse of a disk that works, too.
func TestCrashRemovesTheFuse(t *testing.T) {
	for n := range 3 {
		b := begin(t, 1)
		b.arm(n)
		b.crash()
		for range 5 {
			b.write(0, "w")
			b.barrier()
		}
		b.arm(1)
		b.write(0, "w")
		b.barrier()
		if !b.disk.Dead() {
			t.Error("a fuse that was set behind a crash does not go off")
		}
	}
}
