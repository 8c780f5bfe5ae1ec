package store_test

import (
	"math"
	"testing"

	"posthouse/api"
	"posthouse/store"
)

// limit is a number of a config, and its bounds.
type limit struct {
	name        string
	of          func(c *api.Config) *int
	least, most int
}

func limits() []limit {
	return []limit{
		{"Handles", func(c *api.Config) *int { return &c.Handles }, 1, 256},
		{"Files", func(c *api.Config) *int { return &c.Files }, 1, 64},
		{"Names", func(c *api.Config) *int { return &c.Names }, 0, 256},
		{"Slots", func(c *api.Config) *int { return &c.Slots }, 1, 256},
		{"Ring", func(c *api.Config) *int { return &c.Ring }, 16, 512},
	}
}

// numbers are some that a config may have, or may not.
func numbers() []int {
	return []int{math.MinInt, math.MinInt + 1, -1 << 32, -512, -257, -16, -1, 0, 1, 2, 15, 16, 17, 63, 64, 65, 255, 256, 257, 511, 512, 513, 65536, 1 << 31, 1 << 32, 1<<32 + 16, math.MaxInt - 1, math.MaxInt}
}

// wrong are configs of which one number is out of its bounds, all others are the least, or the greatest, or between.
func wrong() (l []api.Config) {
	for _, c := range configs() {
		for _, one := range limits() {
			for _, n := range append(numbers(), one.least-1, one.most+1) {
				if n < one.least || n > one.most {
					*one.of(&c) = n
					l = append(l, c)
				}
			}
			*one.of(&c) = one.least
		}
	}
	return l
}

// P19.1: each number at, just below and just above its bounds, and far off them, with all others small or great.
func TestCheck(t *testing.T) {
	count := map[api.Errno]int{}
	for _, c := range configs() {
		for _, one := range limits() {
			was := *one.of(&c)
			for _, n := range numbers() {
				*one.of(&c) = n
				want := api.OK
				if n < one.least || n > one.most {
					want = api.ErrRange
				}
				if err := store.Check(c); err != want {
					t.Errorf("%s: Check(%+v) = %d, want %d", one.name, c, err, want)
				}
				if got := store.Sectors(c); (got == 0) != (want != api.OK) || got < 0 {
					t.Errorf("%s: Sectors(%+v) = %d", one.name, c, got)
				}
				count[want]++
			}
			*one.of(&c) = was
		}
	}
	if count[api.OK] < 100 || count[api.ErrRange] < 100 {
		t.Errorf("tested: %v", count)
	}
	if err := store.Check(api.Config{}); err != api.ErrRange {
		t.Errorf("a zero config: %d", err)
	}
}

// P19.1: two numbers that are wrong, and all of them.
func TestCheckSeveral(t *testing.T) {
	for _, c := range []api.Config{
		{Handles: 0, Files: 0, Names: 1, Slots: 1, Ring: 16},
		{Handles: 1, Files: 1, Names: -1, Slots: 257, Ring: 16},
		{Handles: 257, Files: 65, Names: 257, Slots: 257, Ring: 513},
		{Handles: -1, Files: -1, Names: -1, Slots: -1, Ring: -1},
	} {
		if err := store.Check(c); err != api.ErrRange {
			t.Errorf("Check(%+v) = %d", c, err)
		}
		if got := store.Sectors(c); got != 0 {
			t.Errorf("Sectors(%+v) = %d", c, got)
		}
	}
}

// P19.1: numbers of sectors that were reckoned by hand: two, the journal, twice the area, the slots.
func TestSectorsWrittenOut(t *testing.T) {
	for _, c := range []struct {
		config api.Config
		want   int
	}{
		// 12 + 36 + 80 + 0 + 32 + 1.5 are 161.5, so 162; padded 164, and 8 ahead of them: two sectors.
		{api.Config{Handles: 1, Files: 1, Names: 0, Slots: 1, Ring: 16}, 2 + 16 + 2*2 + 1},
		// One name more: 12 + 36 + 80 + 72 + 32 + 2 are 234; padded 236, and 8: 244, two sectors.
		{api.Config{Handles: 1, Files: 1, Names: 1, Slots: 1, Ring: 16}, 2 + 16 + 2*2 + 1},
		// One handle more: 270.5, so 271; padded 272, and 8: 280, three sectors.
		{api.Config{Handles: 2, Files: 1, Names: 1, Slots: 1, Ring: 512}, 2 + 512 + 2*3 + 1},
		// 12 + 108 + 240 + 216 + 96 + 6 are 678; padded 680, and 8: 688, six sectors.
		{small(), 2 + 16 + 2*6 + 3},
		// 12 + 252 + 400 + 792 + 288 + 16 are 1760, and 8: 1768, fourteen sectors.
		{api.Config{Handles: 7, Files: 5, Names: 11, Slots: 9, Ring: 33}, 2 + 33 + 2*14 + 9},
		// 12 + 9216 + 5120 + 18432 + 8192 + 416 are 41388, and 8: 41396, 324 sectors.
		{api.Config{Handles: 256, Files: 64, Names: 256, Slots: 256, Ring: 512}, 2 + 512 + 2*324 + 256},
		// 12 + 108 + 160 + 0 + 96 + 4 are 380, and 8: 388 are four sectors, by four bytes.
		{api.Config{Handles: 3, Files: 2, Names: 0, Slots: 3, Ring: 16}, 2 + 16 + 2*4 + 3},
		// 12 + 72 + 80 + 72 + 128 + 4.5 are 368.5, so 369; padded 372, and 8: 380, three sectors.
		{api.Config{Handles: 2, Files: 1, Names: 1, Slots: 4, Ring: 16}, 2 + 16 + 2*3 + 4},
	} {
		if got := store.Sectors(c.config); got != c.want {
			t.Errorf("Sectors(%+v) = %d, want %d", c.config, got, c.want)
		}
		if got := planOf(c.config).all; got != c.want {
			t.Errorf("the plan of %+v has %d sectors, want %d", c.config, got, c.want)
		}
	}
}

// P19.1: the sectors of many configs, among them such as need one sector more only for half a byte that is rounded up.
func TestSectors(t *testing.T) {
	halves := 0
	for handles := 1; handles <= 256; handles += 3 {
		for _, files := range []int{1, 2, 3, 17, 63, 64} {
			for _, names := range []int{0, 1, 2, 100, 255, 256} {
				for slots := 1; slots <= 256; slots += 15 {
					c := api.Config{Handles: handles, Files: files, Names: names, Slots: slots, Ring: 16 + handles}
					p := planOf(c)
					if got := store.Sectors(c); got != p.all {
						t.Fatalf("Sectors(%+v) = %d, want %d", c, got, p.all)
					}
					if whole := 12 + 36*handles + 80*files + 72*names + 32*slots + (handles+files+names+slots)/2; (handles+files+names+slots)%2 == 1 && (8+whole)%size == 0 {
						halves++
					}
				}
			}
		}
	}
	if halves < 10 {
		t.Errorf("%d configs need a sector for half a byte", halves)
	}
}

// P19.1: so many sectors are needed, and they are enough.
func TestSectorsAreEnough(t *testing.T) {
	for _, c := range configs() {
		n := store.Sectors(c)
		formats(t, newDisk(t, n-1), c, api.ErrFull)
		formats(t, newDisk(t, n), c, api.OK)
	}
}
