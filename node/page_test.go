package node_test

import (
	"math"
	"math/big"
	"math/rand"
	"slices"
	"strings"
	"testing"

	"posthouse/api"
	"posthouse/node"
)

// paged is the entries of a page, taken one after the other as long as they fit, with numbers of any size; and whether they are all, or why there are none.
func paged(l []api.Entry, cookie, count, more int) ([]api.Entry, bool, api.Status) {
	page, all := []api.Entry{}, true
	taken := new(big.Int)
	for _, e := range l {
		if e.Cookie <= cookie {
			continue
		}
		taken.Add(taken, big.NewInt(int64(24+len(e.Name))))
		taken.Add(taken, big.NewInt(int64(more)))
		if all = all && taken.Cmp(big.NewInt(int64(count))) <= 0; all {
			page = append(page, e)
		}
	}
	if !all && len(page) == 0 {
		return nil, false, api.StTooSmall
	}
	return page, all, api.StOK
}

// pages tells whether Page returns this, in new memory.
func pages(t *testing.T, l []api.Entry, cookie, count, more int, want []api.Entry, all bool, status api.Status) {
	t.Helper()
	call := func(l []api.Entry) []api.Entry {
		page, is, why := node.Page(l, cookie, count, more)
		if is != all || why != status {
			t.Errorf("Page(%v, %d, %d, %d) = %v, %v, %d, want %v, %d", l, cookie, count, more, page, is, why, all, status)
		}
		return page
	}
	gives(t, "Page", l, call, want)
}

// three is three entries, of 25, 26 and 27 bytes; with 96 more bytes each, of 121, 122 and 123.
func three() []api.Entry {
	return []api.Entry{entry(2, "a", 3), entry(3, "bb", 5), entry(4, "ccc", 9)}
}

// P20.4: counts that take none, just the first ones, just all, one byte less and one more.
func TestPageCounts(t *testing.T) {
	l := three()
	for _, c := range []struct{ more, count, taken int }{
		{0, 25, 1}, {0, 26, 1}, {0, 49, 1}, {0, 50, 1}, {0, 51, 2}, {0, 52, 2}, {0, 77, 2}, {0, 78, 3}, {0, 79, 3}, {0, 1024, 3}, {0, math.MaxInt, 3},
		{96, 121, 1}, {96, 122, 1}, {96, 242, 1}, {96, 243, 2}, {96, 365, 2}, {96, 366, 3}, {96, 367, 3}, {96, 1024, 3}, {96, math.MaxInt, 3},
		{1, 26, 1}, {1, 52, 1}, {1, 53, 2}, {1, 80, 2}, {1, 81, 3},
		{-1, 24, 1}, {-1, 48, 1}, {-1, 49, 2}, {-1, 74, 2}, {-1, 75, 3}, {-24, 1, 1}, {-24, 2, 1}, {-24, 3, 2}, {-24, 5, 2}, {-24, 6, 3}, {-25, 0, 1}, {-25, 1, 2}, {-25, 2, 2}, {-25, 3, 3},
		{-30, -5, 3}, {-30, 0, 3}, {-30, math.MaxInt, 3}, {math.MinInt, 0, 3}, {math.MinInt, -1, 3}, {math.MinInt, math.MaxInt, 3}, {math.MinInt, math.MinInt + 25, 3}, {math.MinInt, math.MinInt + 26, 3},
		{math.MaxInt - 25, math.MaxInt, 1}, {math.MaxInt - 26, math.MaxInt, 1}, {1 << 62, math.MaxInt, 1}, {1<<62 - 25, math.MaxInt, 1}, {1<<62 - 26, math.MaxInt, 2}, {1<<62 - 27, math.MaxInt, 2},
	} {
		pages(t, l, 0, c.count, c.more, l[:c.taken], c.taken == 3, api.StOK)
	}
	for _, c := range []struct{ more, count int }{
		{0, 24}, {0, 23}, {0, 1}, {0, 0}, {0, -1}, {0, math.MinInt}, {96, 120}, {96, 25}, {96, 0}, {96, -1}, {96, math.MinInt}, {1, 25},
		{-1, 23}, {-24, 0}, {-25, -1}, {-30, -6}, {-30, math.MinInt}, {math.MinInt, math.MinInt}, {math.MinInt, math.MinInt + 24},
		{math.MaxInt - 24, math.MaxInt}, {math.MaxInt, math.MaxInt}, {math.MaxInt, 0}, {math.MaxInt, 25}, {math.MaxInt, -1}, {math.MaxInt, math.MinInt}, {1 << 62, 1 << 62},
	} {
		pages(t, l, 0, c.count, c.more, nil, false, api.StTooSmall)
	}
}

// P20.4: cookies below all, between, equal to one, and beyond all.
func TestPageCookies(t *testing.T) {
	l := three()
	for _, c := range []struct{ cookie, passed int }{
		{math.MinInt, 0}, {-1, 0}, {0, 0}, {1, 0}, {2, 0}, {3, 1}, {4, 1}, {5, 2}, {6, 2}, {8, 2}, {9, 3}, {10, 3}, {math.MaxInt, 3},
	} {
		pages(t, l, c.cookie, 1024, 0, l[c.passed:], true, api.StOK)
		if c.passed == 3 {
			for _, count := range []int{math.MinInt, -1, 0, 24, math.MaxInt} {
				pages(t, l, c.cookie, count, 96, nil, true, api.StOK)
			}
			continue
		}
		first := 25 + c.passed
		pages(t, l, c.cookie, first-1, 0, nil, false, api.StTooSmall)
		pages(t, l, c.cookie, first, 0, l[c.passed:c.passed+1], c.passed == 2, api.StOK)
		pages(t, l, c.cookie, first+96, 96, l[c.passed:c.passed+1], c.passed == 2, api.StOK)
	}
	for _, count := range []int{math.MinInt, -1, 0, 25, math.MaxInt} {
		pages(t, nil, 0, count, 0, nil, true, api.StOK)
		pages(t, []api.Entry{}, -1, count, math.MaxInt, nil, true, api.StOK)
		pages(t, []api.Entry{entry(2, "a", 0), entry(2, "b", -1), entry(2, "c", math.MinInt)}, 0, count, 0, nil, true, api.StOK)
	}
}

// P20.4: an entry that would fit behind one that does not is not returned; the first one's size alone tells of StTooSmall.
func TestPageStopsAtTheFirstThatDoesNotFit(t *testing.T) {
	long := strings.Repeat("n", 24)
	l := []api.Entry{entry(2, "a", 1), entry(3, long, 2), entry(4, "b", 3)}
	pages(t, l, 0, 72, 0, l[:1], false, api.StOK)
	pages(t, l, 0, 73, 0, l[:2], false, api.StOK)
	pages(t, l, 1, 47, 0, nil, false, api.StTooSmall)
	pages(t, l, 1, 48, 0, l[1:2], false, api.StOK)
	pages(t, l, 1, 73, 0, l[1:], true, api.StOK)
	pages(t, l, 2, 25, 0, l[2:], true, api.StOK)
}

// P20.4: entries whose cookies do not ascend are considered in the order in which they are; all of their fields are returned.
func TestPageOfAnyOrder(t *testing.T) {
	a, b, c, d := entry(2, "a", 7), entry(3, "b", 3), entry(4, "c", 7), entry(5, "d", 5)
	l := []api.Entry{a, b, c, d}
	pages(t, l, 2, 1024, 0, l, true, api.StOK)
	pages(t, l, 3, 1024, 0, []api.Entry{a, c, d}, true, api.StOK)
	pages(t, l, 4, 50, 0, []api.Entry{a, c}, false, api.StOK)
	pages(t, l, 5, 1024, 0, []api.Entry{a, c}, true, api.StOK)
	pages(t, l, 6, 25, 0, []api.Entry{a}, false, api.StOK)
	pages(t, l, 7, 0, 0, nil, true, api.StOK)
	pages(t, []api.Entry{full("x"), full("x"), full("")}, 5, 50, 0, []api.Entry{full("x"), full("x")}, false, api.StOK)
	pages(t, []api.Entry{full("x"), full("x"), full("")}, 5, 74, 0, []api.Entry{full("x"), full("x"), full("")}, true, api.StOK)
}

// anyEntries is entries whose cookies ascend, unless they are mixed.
func anyEntries(chance *rand.Rand, most int, mixed bool) []api.Entry {
	l, cookie := []api.Entry{}, 0
	for i := range chance.Intn(most + 1) {
		cookie += 1 + chance.Intn(3)
		l = append(l, entry(1+chance.Intn(9), strings.Repeat("n", chance.Intn(20))+string([]byte{'A' + byte(i/26), 'a' + byte(i%26)}), cookie))
	}
	if mixed {
		chance.Shuffle(len(l), func(i, j int) { l[i], l[j] = l[j], l[i] })
	}
	return l
}

// P20.4: any entries, with counts and more bytes around all edges.
func TestPageOfAny(t *testing.T) {
	chance := rand.New(rand.NewSource(5))
	for i := range 300 {
		l := anyEntries(chance, 8, i%2 == 1)
		for _, more := range []int{math.MinInt, -1 << 62, -49, -48, -30, -25, -24, -1, 0, 1, 96, 1000, 1 << 61, 1 << 62, math.MaxInt - 50, math.MaxInt} {
			size := 24 + chance.Intn(25)
			for _, count := range around(24, size, 2*size, size+more, 2*(size+more), 3*more, mostFile) {
				cookie := chance.Intn(20) - 1
				want, all, status := paged(l, cookie, count, more)
				page, is, why := node.Page(l, cookie, count, more)
				if !slices.Equal(page, want) || is != all || why != status {
					t.Fatalf("Page(%v, %d, %d, %d) = %v, %v, %d, want %v, %v, %d", l, cookie, count, more, page, is, why, want, all, status)
				}
			}
		}
	}
}

// P20.7: successive pages, each after the last cookie of the one before, have each entry once, in order.
func TestSuccessivePages(t *testing.T) {
	chance := rand.New(rand.NewSource(6))
	for range 1000 {
		l, more := anyEntries(chance, 40, false), 96*chance.Intn(2)
		if err := node.Check(l); err != api.OK {
			t.Fatalf("Check(%v) = %d", l, err)
		}
		longest := 0
		for _, e := range l {
			longest = max(longest, 24+len(e.Name)+more)
		}
		for _, count := range []int{longest, longest + 1, longest + chance.Intn(200), 2*longest - 1, 1024, math.MaxInt} {
			got, cookie := []api.Entry{}, 0
			for end, turns := false, 0; !end && turns <= len(l); turns++ {
				page, all, why := node.Page(l, cookie, count, more)
				if why != api.StOK || len(page) == 0 && len(l) > 0 {
					t.Fatalf("Page(%v, %d, %d, %d) = %v, %v, %d", l, cookie, count, more, page, all, why)
				}
				got, end = append(got, page...), all
				if !all {
					cookie = page[len(page)-1].Cookie
				}
			}
			if !slices.Equal(got, l) {
				t.Fatalf("pages of %d bytes, %d more: %v, want %v", count, more, got, l)
			}
		}
	}
}
