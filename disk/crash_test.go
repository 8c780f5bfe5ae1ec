package disk_test

import (
	"math"
	"math/rand"
	"slices"
	"strconv"
	"strings"
	"testing"

	"posthouse/api"
)

// P10.3: which pending writes a crash keeps.
func TestCrashes(t *testing.T) {
	writes := []wait{{0, "a"}, {1, "b"}, {0, "c"}, {2, "d"}, {0, "e"}}
	for _, c := range []struct {
		keep []int
		want [3]string
	}{
		{nil, [3]string{"x", "y", "z"}},
		{[]int{}, [3]string{"x", "y", "z"}},
		{[]int{0}, [3]string{"a", "y", "z"}},
		{[]int{1}, [3]string{"x", "b", "z"}},
		{[]int{2}, [3]string{"c", "y", "z"}},
		{[]int{4}, [3]string{"e", "y", "z"}},
		{[]int{0, 2}, [3]string{"c", "y", "z"}},
		{[]int{2, 0}, [3]string{"c", "y", "z"}},
		{[]int{4, 2, 0}, [3]string{"e", "y", "z"}},
		{[]int{0, 4, 2, 0, 2}, [3]string{"e", "y", "z"}},
		{[]int{3, 1}, [3]string{"x", "b", "d"}},
		{[]int{3, 3, 3, 1, 3}, [3]string{"x", "b", "d"}},
		{[]int{0, 1, 2, 3, 4}, [3]string{"e", "b", "d"}},
		{[]int{4, 3, 2, 1, 0}, [3]string{"e", "b", "d"}},
		{[]int{-1}, [3]string{"x", "y", "z"}},
		{[]int{5}, [3]string{"x", "y", "z"}},
		{[]int{-1, 5, -5, 6, math.MinInt, math.MaxInt, 1 << 32, -1 << 32}, [3]string{"x", "y", "z"}},
		{[]int{math.MaxInt, 3, -1, 2, 5}, [3]string{"c", "y", "d"}},
	} {
		b := begin(t, 3)
		for i, text := range []string{"x", "y", "z"} {
			b.write(i, text)
		}
		b.barrier()
		for _, w := range writes {
			b.write(w.at, w.text)
		}
		b.crash(c.keep...)
		for i, want := range c.want {
			if got, err := b.disk.Read(i); got != padded(want) || err != api.OK {
				t.Errorf("Crash(%v): Read(%d) = %q, error %d, want %q", c.keep, i, got, err, want)
			}
		}
		b.crash(0, 1, 2, 3, 4)
	}
}

// P10.3: a crash when nothing waits, once and again.
func TestCrashOfNothing(t *testing.T) {
	b := begin(t, 2)
	for _, keep := range [][]int{nil, {0}, {-1, 0, 1, 2}} {
		b.crash(keep...)
		b.write(0, "s")
		b.barrier()
		b.crash(keep...)
		b.crash(keep...)
	}
}

// P10.3: positions are counted from the last barrier or crash on.
func TestPositionsBeginAnew(t *testing.T) {
	b := begin(t, 4)
	b.write(0, "a")
	b.write(1, "b")
	b.barrier()
	b.write(2, "c")
	b.write(3, "d")
	b.crash(1)
	has(t, b.disk, 2, "")
	has(t, b.disk, 3, "d")
	b.write(2, "e")
	b.write(0, "f")
	b.crash(0, 2, 3)
	has(t, b.disk, 2, "e")
	has(t, b.disk, 0, "a")
}

// P10.4: Count goes on over a crash, and a crash is counted as nothing.
func TestCountGoesOn(t *testing.T) {
	b := begin(t, 1)
	for n := range 4 {
		b.write(0, "w")
		b.write(0, "v")
		b.barrier()
		b.write(0, "u")
		b.crash(n)
		if writes, barriers := b.disk.Count(); writes != 3*(n+1) || barriers != n+1 {
			t.Errorf("behind %d crashes: Count %d, %d", n+1, writes, barriers)
		}
	}
}

// anyKeep is positions, some of them of no pending write.
func anyKeep(chance *rand.Rand, waiting int) []int {
	keep := make([]int, chance.Intn(2*waiting+2))
	for i := range keep {
		keep[i] = chance.Intn(waiting+4) - 2
	}
	return keep
}

// anyText is a text that is now and then too long.
func anyText(chance *rand.Rand) string {
	text := make([]byte, chance.Intn(12))
	if chance.Intn(4) == 0 {
		text = make([]byte, size-2+chance.Intn(4))
	}
	for i := range text {
		text[i] = byte(chance.Intn(256))
	}
	return string(text)
}

// step lets anything happen to a disk and to its model.
func (b both) step(chance *rand.Rand) {
	b.t.Helper()
	switch n := chance.Intn(20); {
	case n < 11:
		b.write(chance.Intn(len(b.model.kept)+2)-1, anyText(chance))
	case n < 14:
		b.barrier()
	case n < 17:
		b.arm(chance.Intn(10) - 2)
	default:
		b.crash(anyKeep(chance, len(b.model.waiting))...)
	}
}

// P10.2, P10.3, P10.4: writes, barriers, reads, fuses and crashes in many orders.
func TestManyOrders(t *testing.T) {
	chance := rand.New(rand.NewSource(1))
	failed := 0
	for range 400 {
		b := begin(t, 1+chance.Intn(5))
		for range 60 {
			b.step(chance)
			if b.disk.Dead() {
				failed++
			}
		}
	}
	if failed < 1000 {
		t.Errorf("a disk had failed at %d steps alone", failed)
	}
}

// P10.5: what a barrier followed remains, whatever crashes; behind a crash each sector has what was persisted, or one of the writes that were pending.
func TestWhatRemains(t *testing.T) {
	chance := rand.New(rand.NewSource(2))
	for range 300 {
		b := begin(t, 4)
		d := b.disk
		for i := range 4 {
			d.Write(i, "old"+strconv.Itoa(i))
		}
		refused(t, "Barrier", d.Barrier(), api.OK)
		d.Arm(chance.Intn(12) - 1)
		before, may := d.Image(), make([][]string, 4)
		for n := range chance.Intn(12) {
			i, text := chance.Intn(4), "new"+strconv.Itoa(n)
			if d.Write(i, text) == api.OK {
				may[i] = append(may[i], padded(text))
			}
			if chance.Intn(6) == 0 && d.Barrier() == api.OK {
				before, may = d.Image(), make([][]string, 4)
			}
		}
		d.Crash(anyKeep(chance, d.Waiting()))
		for i, now := range d.Image() {
			if now != before[i] && !slices.Contains(may[i], now) {
				t.Errorf("sector %d has %q; persisted was %q, pending were %q", i, now, before[i], may[i])
			}
			has(t, d, i, strings.TrimRight(now, "\x00"))
		}
		after := d.Image()
		d.Crash([]int{0, 1, 2, 3})
		if !slices.Equal(d.Image(), after) {
			t.Errorf("a second crash left %q of %q", d.Image(), after)
		}
	}
}

// P1: every call ends and none panics, whatever it is given, also with very many pending writes.
func TestNoCallPanics(t *testing.T) {
	numbers := []int{math.MinInt, -1 << 32, -1, 0, 1, 2, 65536, 1 << 32, math.MaxInt}
	for _, dead := range []bool{false, true} {
		b := begin(t, 2)
		if dead {
			b.arm(0)
			b.write(0, "w")
		}
		for _, n := range numbers {
			for _, text := range []string{"", "a", blank, blank + "l", strings.Repeat("\xff", 1<<20)} {
				b.write(n, text)
			}
		}
		for _, n := range numbers {
			b.arm(n)
			b.barrier()
		}
		b.crash(numbers...)
	}
	b := begin(t, 3)
	for n := range 100000 {
		if b.disk.Write(n%3, strconv.Itoa(n)) != api.OK {
			t.Fatal(n)
		}
		has(t, b.disk, n%3, strconv.Itoa(n))
		has(t, b.disk, 0, strconv.Itoa(n-n%3))
	}
	refused(t, "Crash", b.disk.Crash(slices.Repeat([]int{99999, 99997, 5}, 100000)), api.OK)
	for i, want := range []string{"99999", "99997", "5"} {
		has(t, b.disk, i, want)
	}
}
