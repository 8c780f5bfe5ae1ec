package space_test

import (
	"math"
	"math/rand"
	"slices"
	"testing"

	"posthouse/api"
	"posthouse/space"
)

// P21.1: each of the limits at its bounds, just below and just above them, whatever the others are.
func TestCheck(t *testing.T) {
	const most = 1 << 30
	numbers := append(odd(), 3, 32, 1000, most-1, most, most+1, 2*most, 1<<32, 1<<32+1)
	for _, bytes := range numbers {
		for _, quota := range numbers {
			for _, nodes := range numbers {
				want := api.ErrRange
				if bytes >= 0 && bytes <= most && quota >= 0 && quota <= most && nodes >= 1 && nodes <= 64 {
					want = api.OK
				}
				if got := space.Check(api.Limits{Space: bytes, Quota: quota, Nodes: nodes}); got != want {
					t.Fatalf("Check(%d, %d, %d) = %d, want %d", bytes, quota, nodes, got, want)
				}
			}
		}
	}
}

// P21.1: the same, written out.
func TestCheckSome(t *testing.T) {
	for _, c := range []struct {
		l    api.Limits
		want api.Errno
	}{
		{api.Limits{Space: 0, Quota: 0, Nodes: 1}, api.OK}, {api.Limits{Space: 99, Quota: 99, Nodes: 9}, api.OK}, {api.Limits{Space: 10, Quota: 60, Nodes: 64}, api.OK}, {api.Limits{Space: 1 << 30, Quota: 1 << 30, Nodes: 64}, api.OK},
		{api.Limits{}, api.ErrRange}, {api.Limits{Space: 1, Quota: 1, Nodes: 0}, api.ErrRange}, {api.Limits{Space: 1, Quota: 1, Nodes: -1}, api.ErrRange}, {api.Limits{Space: 1, Quota: 1, Nodes: 65}, api.ErrRange},
		{api.Limits{Space: -1, Quota: 1, Nodes: 1}, api.ErrRange}, {api.Limits{Space: 1<<30 + 1, Quota: 1, Nodes: 1}, api.ErrRange}, {api.Limits{Space: 1, Quota: -1, Nodes: 1}, api.ErrRange}, {api.Limits{Space: 1, Quota: 1<<30 + 1, Nodes: 1}, api.ErrRange},
		{api.Limits{Space: math.MinInt, Quota: 1, Nodes: 1}, api.ErrRange}, {api.Limits{Space: 1, Quota: math.MaxInt, Nodes: 1}, api.ErrRange}, {api.Limits{Space: 1, Quota: 1, Nodes: math.MaxInt}, api.ErrRange},
	} {
		if got := space.Check(c.l); got != c.want {
			t.Errorf("Check(%+v) = %d, want %d", c.l, got, c.want)
		}
	}
}

// P21.2: the bytes of data, not the sizes, of all nodes of whatever type, and of those of one user, not of one group.
func TestUsedAndOwned(t *testing.T) {
	link := api.Node{Attr: api.Attr{Type: api.TypeLnk, Uid: 5, Gid: 6, Size: 9}, Data: "ab"}
	for _, c := range []struct {
		nodes []api.Node
		used  int
		owned map[int]int
	}{
		{nil, 0, map[int]int{0: 0, 1: 0, -1: 0}},
		{[]api.Node{}, 0, map[int]int{0: 0, 1: 0}},
		{[]api.Node{dir(0)}, 0, map[int]int{0: 0, 7: 0}},
		{[]api.Node{dir(5), file(5, 0), dir(6)}, 0, map[int]int{5: 0, 6: 0, 7: 0}},
		{[]api.Node{file(5, 1)}, 1, map[int]int{5: 1, 6: 0, 0: 0}},
		{[]api.Node{dir(0), file(5, 3), file(6, 4), link, file(5, 5), file(0, 6), dir(5)}, 20, map[int]int{5: 10, 6: 4, 0: 6, 7: 0, 4: 0, -5: 0, math.MinInt: 0}},
		{[]api.Node{file(-1, 1), file(math.MinInt, 2), file(math.MaxInt, 4)}, 7, map[int]int{-1: 1, math.MinInt: 2, math.MaxInt: 4, 1: 0, 0: 0}},
		{[]api.Node{file(5, 2), file(5, 2)}, 4, map[int]int{5: 4}},
		{[]api.Node{file(5, 1024), file(6, 5000)}, 6024, map[int]int{5: 1024, 6: 5000}},
	} {
		was := copied(api.Tree{Nodes: c.nodes})
		if got := space.Used(c.nodes); got != c.used {
			t.Errorf("Used of %d nodes: %d, want %d", len(c.nodes), got, c.used)
		}
		for uid, want := range c.owned {
			if got := space.Owned(c.nodes, uid); got != want {
				t.Errorf("Owned of %d nodes by %d: %d, want %d", len(c.nodes), uid, got, want)
			}
		}
		if !same(was, api.Tree{Nodes: c.nodes}) {
			t.Errorf("%v has become %v", was.Nodes, c.nodes)
		}
	}
}

// P21.2: what all use is what each user does, together.
func TestUsedIsOwnedByAll(t *testing.T) {
	chance := rand.New(rand.NewSource(1))
	for range 1000 {
		var nodes []api.Node
		for range chance.Intn(20) {
			nodes = append(nodes, file(chance.Intn(4), chance.Intn(30)))
		}
		sum := 0
		for uid := range 4 {
			sum += space.Owned(nodes, uid)
		}
		if got := space.Used(nodes); got != sum || got != used(api.Tree{Nodes: nodes}) {
			t.Fatalf("Used(%v) = %d, want %d", nodes, got, sum)
		}
	}
}

// withIds is nodes with these Ids, and with other Gens.
func withIds(ids ...int) (nodes []api.Node) {
	for i, id := range ids {
		nodes = append(nodes, api.Node{Attr: api.Attr{Type: api.TypeReg, Id: id, Gen: 100 + i, Uid: 1}})
	}
	return nodes
}

// P21.4: no nodes, Ids with gaps, below 1, twice, in any order.
func TestId(t *testing.T) {
	for _, c := range []struct {
		ids  []int
		want int
	}{
		{nil, 1}, {[]int{1}, 2}, {[]int{2}, 1}, {[]int{1, 2, 3}, 4}, {[]int{1, 3}, 2}, {[]int{2, 3}, 1}, {[]int{1, 2, 4, 5, 7}, 3},
		{[]int{3, 2, 1}, 4}, {[]int{3, 1}, 2}, {[]int{5, 1, 4, 2}, 3}, {[]int{2, 1, 4, 3}, 5},
		{[]int{1, 1}, 2}, {[]int{1, 1, 2}, 3}, {[]int{1, 2, 1, 2}, 3}, {[]int{2, 2}, 1}, {[]int{1, 3, 3, 1}, 2}, {[]int{1, 1, 1, 3}, 2},
		{[]int{0}, 1}, {[]int{-1}, 1}, {[]int{0, 1}, 2}, {[]int{-1, 0, 1, 2}, 3}, {[]int{0, 2}, 1}, {[]int{0, 0, 1, 0}, 2}, {[]int{math.MinInt}, 1}, {[]int{math.MaxInt}, 1}, {[]int{math.MinInt, 1, math.MaxInt, -1}, 2}, {[]int{1 << 32, 1<<32 + 1}, 1},
	} {
		nodes := withIds(c.ids...)
		was := slices.Clone(nodes)
		if got := space.Id(nodes); got != c.want {
			t.Errorf("Id(%v) = %d, want %d", c.ids, got, c.want)
		}
		if !same(api.Tree{Nodes: nodes}, api.Tree{Nodes: was}) {
			t.Errorf("Id has changed the nodes with %v", c.ids)
		}
	}
}

// P21.4: of any Ids, the answer is none of them, and each number ahead of it is one.
func TestIdIsTheSmallest(t *testing.T) {
	chance := rand.New(rand.NewSource(2))
	for range 20000 {
		ids := make([]int, chance.Intn(12))
		for i := range ids {
			ids[i] = chance.Intn(14) - 2
		}
		got := space.Id(withIds(ids...))
		if got < 1 || slices.Contains(ids, got) {
			t.Fatalf("Id(%v) = %d", ids, got)
		}
		for n := 1; n < got; n++ {
			if !slices.Contains(ids, n) {
				t.Fatalf("Id(%v) = %d, but %d is free", ids, got, n)
			}
		}
	}
	many := chance.Perm(1 << 16)
	if got := space.Id(withIds(many...)); got != 1<<16 {
		t.Errorf("Id of 2^16 nodes: %d", got)
	}
	many[slices.Index(many, 777)] = 0
	if got := space.Id(withIds(many...)); got != 777 {
		t.Errorf("Id of 2^16 nodes without 777: %d", got)
	}
}
