package space_test

import (
	"math"
	"math/rand"
	"slices"
	"strings"
	"testing"

	"posthouse/api"
	"posthouse/space"
)

// counts tells whether Nums returns this, in new memory.
func counts(t *testing.T, of api.Tree, uid int, want ...int) {
	t.Helper()
	was := copied(of)
	first, second := space.Nums(of, uid), space.Nums(of, uid)
	if !slices.Equal(first, want) {
		t.Errorf("Nums of %+v for %d, %d and %d used: %v, want %v", of.Limits, uid, used(of), owned(of, uid), first, want)
	}
	for i := range first[:cap(first)] {
		first[:cap(first)][i] = -7
	}
	if !slices.Equal(second, want) || !slices.Equal(space.Nums(of, uid), want) || !same(of, was) {
		t.Errorf("Nums of %+v for %d: after the first one was overwritten, the second one is %v, want %v", of.Limits, uid, second, want)
	}
}

// P21.5: free space, and none; users with less, as much as, and more left of the quota than of the space, and none; the user 0.
func TestNums(t *testing.T) {
	of := tree(100, 40, 9, dir(0), file(1, 5), file(2, 40), file(3, 15))
	counts(t, of, 0, 100, 40, 40, 9, 5, 5)
	counts(t, of, 1, 100, 40, 35, 9, 5, 5)
	counts(t, of, 2, 100, 40, 0, 9, 5, 5)
	counts(t, of, 3, 100, 40, 25, 9, 5, 5)
	counts(t, of, 4, 100, 40, 40, 9, 5, 5)
	counts(t, tree(100, 30, 9, file(1, 65)), 2, 100, 35, 30, 9, 8, 8)
	counts(t, tree(100, 35, 9, file(1, 65)), 2, 100, 35, 35, 9, 8, 8)
	counts(t, tree(100, 36, 9, file(1, 65)), 2, 100, 35, 35, 9, 8, 8)
	counts(t, tree(100, 99, 9, file(1, 65)), 1, 100, 35, 34, 9, 8, 8)
	counts(t, tree(100, 100, 9, file(1, 65)), 1, 100, 35, 35, 9, 8, 8)
	counts(t, tree(100, 101, 9, file(1, 65)), 1, 100, 35, 35, 9, 8, 8)
	counts(t, tree(10, 6, 9, file(1, 5)), 1, 10, 5, 1, 9, 8, 8)
	counts(t, tree(10, 0, 9, file(0, 5)), 0, 10, 5, 5, 9, 8, 8)
	counts(t, tree(10, 0, 9, file(0, 5)), 1, 10, 5, 0, 9, 8, 8)
	counts(t, tree(10, 0, 9, file(0, 5)), -1, 10, 5, 0, 9, 8, 8)
	counts(t, tree(1<<30, 1<<30, 64, dir(0)), 0, 1<<30, 1<<30, 1<<30, 64, 63, 63)
	counts(t, tree(1<<30, 1<<30, 64, dir(0)), 5, 1<<30, 1<<30, 1<<30, 64, 63, 63)
	counts(t, tree(0, 0, 1), 0, 0, 0, 0, 1, 1, 1)
	counts(t, tree(0, 0, 1), 1, 0, 0, 0, 1, 1, 1)
}

// P21.5: as much used as there is, and more, of the space and of the quota.
func TestNumsWhereNothingIsLeft(t *testing.T) {
	counts(t, tree(5, 9, 9, file(1, 5)), 1, 5, 0, 0, 9, 8, 8)
	counts(t, tree(5, 9, 9, file(1, 5)), 2, 5, 0, 0, 9, 8, 8)
	counts(t, tree(4, 9, 9, file(1, 5)), 1, 4, 0, 0, 9, 8, 8)
	counts(t, tree(4, 9, 9, file(1, 5)), 0, 4, 0, 0, 9, 8, 8)
	counts(t, tree(0, 9, 9, file(1, 5)), 2, 0, 0, 0, 9, 8, 8)
	counts(t, tree(9, 5, 9, file(1, 5)), 1, 9, 4, 0, 9, 8, 8)
	counts(t, tree(9, 4, 9, file(1, 5)), 1, 9, 4, 0, 9, 8, 8)
	counts(t, tree(9, 4, 9, file(0, 5)), 0, 9, 4, 4, 9, 8, 8)
	counts(t, tree(-3, -4, -5, file(1, 5)), 1, -3, 0, 0, -5, 0, 0)
	counts(t, tree(math.MinInt, math.MinInt, math.MinInt, file(1, 5)), 1, math.MinInt, 0, 0, math.MinInt, 0, 0)
	counts(t, tree(math.MaxInt, math.MinInt, math.MaxInt, file(1, 5)), 1, math.MaxInt, math.MaxInt-5, 0, math.MaxInt, math.MaxInt-1, math.MaxInt-1)
	counts(t, tree(math.MaxInt, math.MaxInt, 9), 0, math.MaxInt, math.MaxInt, math.MaxInt, 9, 9, 9)
	counts(t, tree(math.MaxInt, math.MaxInt, 9), 1, math.MaxInt, math.MaxInt, math.MaxInt, 9, 9, 9)
	counts(t, tree(math.MinInt, math.MaxInt, 9), 1, math.MinInt, 0, 0, 9, 9, 9)
}

// P21.5: fewer, as many and more nodes than there may be.
func TestNumsOfNodes(t *testing.T) {
	for nodes := range 6 {
		var l []api.Node
		for range nodes {
			l = append(l, dir(1))
		}
		for most := range 8 {
			counts(t, tree(9, 8, most, l...), 1, 9, 9, 8, most, max(most-nodes, 0), max(most-nodes, 0))
		}
	}
}

// P21.3, P21.5: a user has room for just as many bytes as the third number tells.
func TestNumsTellRoom(t *testing.T) {
	chance := rand.New(rand.NewSource(4))
	for range 3000 {
		of := tree(chance.Intn(40), chance.Intn(30), chance.Intn(9))
		for range chance.Intn(5) {
			of.Nodes = append(of.Nodes, file(chance.Intn(3), chance.Intn(12)))
		}
		for uid := range 4 {
			l := space.Nums(of, uid)
			if len(l) != 6 || l[0] != of.Limits.Space || l[3] != of.Limits.Nodes || l[4] != l[5] || l[2] > l[1] || l[2] < 0 {
				t.Fatalf("Nums of %+v for %d: %v", of.Limits, uid, l)
			}
			rooms(t, of, uid, l[2], api.StOK)
			if space.Room(of, uid, l[2]+1) == api.StOK {
				t.Fatalf("Nums of %+v for %d: %v, but there is room for one byte more", of.Limits, uid, l)
			}
		}
	}
}

// P1: every call ends and none panics, whatever it is given.
func TestNoCallPanics(t *testing.T) {
	node := api.Node{Attr: api.Attr{Type: -1, Uid: -1, Size: math.MaxInt, Id: math.MinInt}, Data: strings.Repeat("\x00", 1<<20), Verf: -1, Parent: -1, Last: -1}
	for _, nodes := range [][]api.Node{nil, {}, {{}}, {node}, slices.Repeat([]api.Node{node}, 1000), slices.Repeat([]api.Node{file(0, 3), file(1, 0)}, 1000)} {
		space.Used(nodes)
		space.Id(nodes)
		for _, a := range odd() {
			space.Owned(nodes, a)
			space.Check(api.Limits{Space: a, Quota: a, Nodes: a})
			for _, b := range odd() {
				for _, of := range []api.Tree{tree(a, b, a, nodes...), tree(b, a, b, nodes...)} {
					space.Room(of, 0, a)
					space.Room(of, -1, b)
					space.Nums(of, 0)
					space.Nums(of, a)
				}
			}
		}
	}
}
