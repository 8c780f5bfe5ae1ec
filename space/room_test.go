package space_test

import (
	"math"
	"math/big"
	"math/rand"
	"slices"
	"testing"

	"posthouse/api"
	"posthouse/space"
)

// P21.3: the example of the chapter, and what is around it.
func TestRoomExample(t *testing.T) {
	of := tree(10, 6, 9, dir(0), file(1, 5))
	rooms(t, of, 1, 1, api.StOK)
	rooms(t, of, 1, 2, api.StDQuot)
	rooms(t, of, 1, 5, api.StDQuot)
	rooms(t, of, 1, 6, api.StNoSpc)
	rooms(t, of, 2, 5, api.StOK)
	rooms(t, of, 2, 6, api.StNoSpc)
	rooms(t, of, 0, 5, api.StOK)
	rooms(t, of, 0, 6, api.StNoSpc)
}

// P21.3: just as many bytes as there are left, and one more, of the space, of the quota, of both; users with nodes and without.
func TestRoom(t *testing.T) {
	for _, c := range []struct {
		of    api.Tree
		uid   int
		most  int
		above api.Status
	}{
		{tree(10, 99, 9, file(1, 3), file(2, 4)), 1, 3, api.StNoSpc}, {tree(10, 99, 9, file(1, 3), file(2, 4)), 3, 3, api.StNoSpc}, {tree(10, 99, 9, file(1, 3), file(2, 4)), 0, 3, api.StNoSpc},
		{tree(99, 10, 9, file(1, 3), file(2, 4)), 1, 7, api.StDQuot}, {tree(99, 10, 9, file(1, 3), file(2, 4)), 2, 6, api.StDQuot}, {tree(99, 10, 9, file(1, 3), file(2, 4)), 3, 10, api.StDQuot}, {tree(99, 10, 9, file(1, 3), file(2, 4)), 0, 92, api.StNoSpc},
		{tree(10, 6, 9, file(1, 3), file(2, 4)), 1, 3, api.StNoSpc}, {tree(10, 5, 9, file(1, 3), file(2, 4)), 1, 2, api.StDQuot}, {tree(10, 6, 9, file(1, 3), file(1, 3), file(0, 1)), 0, 3, api.StNoSpc},
		{tree(7, 0, 9, file(0, 3)), 0, 4, api.StNoSpc}, {tree(7, 0, 9, file(0, 3)), 1, 0, api.StDQuot}, {tree(7, 2, 9, file(0, 3)), -1, 2, api.StDQuot}, {tree(7, 4, 9, file(-1, 3)), -1, 1, api.StDQuot},
		{tree(10, 10, 9, file(0, 5), file(1, 2)), 0, 3, api.StNoSpc}, {tree(100, 3, 9, file(0, 50), file(1, 2)), 0, 48, api.StNoSpc}, {tree(100, 3, 9, file(0, 50), file(1, 2)), 1, 1, api.StDQuot},
		{tree(0, 0, 1), 0, 0, api.StNoSpc}, {tree(0, 0, 1), 1, 0, api.StNoSpc}, {tree(0, 9, 1), 1, 0, api.StNoSpc}, {tree(9, 0, 1), 1, 0, api.StDQuot}, {tree(9, 0, 1), 0, 9, api.StNoSpc},
		{tree(5, 9, 9, file(1, 5)), 1, 0, api.StNoSpc}, {tree(9, 5, 9, file(1, 5)), 1, 0, api.StDQuot}, {tree(5, 5, 9, file(1, 5)), 1, 0, api.StNoSpc}, {tree(5, 5, 9, file(1, 5)), 2, 0, api.StNoSpc},
		{tree(1<<30, 1<<30, 9), 1, 1 << 30, api.StNoSpc}, {tree(1<<30, 1<<30-1, 9), 1, 1<<30 - 1, api.StDQuot}, {tree(1<<30, 0, 9), 0, 1 << 30, api.StNoSpc},
	} {
		for _, more := range []int{c.most - 1, c.most, 1, c.most / 2} {
			rooms(t, c.of, c.uid, min(more, c.most), api.StOK)
		}
		rooms(t, c.of, c.uid, c.most+1, c.above)
	}
}

// P21.3: more than the space is told ahead of more than the quota.
func TestRoomTellsSpaceFirst(t *testing.T) {
	for _, quota := range []int{0, 5, 6, 9, 10} {
		of := tree(10, quota, 9, file(1, 5))
		rooms(t, of, 1, 6, api.StNoSpc)
		rooms(t, of, 1, 1000, api.StNoSpc)
		rooms(t, of, 1, math.MaxInt, api.StNoSpc)
	}
}

// P21.3: there is room for numbers below 1, also where all is full, and where more is used than there may be.
func TestRoomForNothing(t *testing.T) {
	for _, of := range []api.Tree{
		tree(0, 0, 1), tree(10, 6, 9, file(1, 5)), tree(5, 5, 1, file(1, 5)), tree(3, 9, 1, file(1, 5)), tree(9, 3, 1, file(1, 5)), tree(3, 3, 0, file(1, 5), file(0, 5)), tree(-1, -1, -1, file(1, 5)), tree(math.MinInt, math.MinInt, 1, file(1, 5)), tree(math.MinInt, math.MaxInt, 1), tree(math.MaxInt, math.MinInt, 1),
	} {
		for _, uid := range []int{0, 1, 2, -1} {
			for _, more := range []int{0, -1, -5, -6, -1000, math.MinInt + 1, math.MinInt} {
				rooms(t, of, uid, more, api.StOK)
			}
		}
	}
}

// P21.3: where more is used than there may be, there is no room for anything.
func TestRoomWhereTooMuchIsUsed(t *testing.T) {
	for _, more := range []int{1, 2, 5, 6, 1000, 1 << 30, math.MaxInt - 1, math.MaxInt} {
		for _, bytes := range []int{4, 1, 0, -1, -1000, math.MinInt + 1, math.MinInt} {
			for _, quota := range []int{math.MaxInt, 9, 4, 0, -1, math.MinInt} {
				rooms(t, tree(bytes, quota, 9, file(1, 5)), 0, more, api.StNoSpc)
				rooms(t, tree(bytes, quota, 9, file(1, 5)), 1, more, api.StNoSpc)
				rooms(t, tree(bytes, quota, 9, file(1, 5)), 2, more, api.StNoSpc)
			}
		}
		for _, quota := range []int{4, 1, 0, -1, -1000, math.MinInt + 1, math.MinInt} {
			rooms(t, tree(math.MaxInt, quota, 9, file(1, 5)), 1, min(more, math.MaxInt-5), api.StDQuot)
		}
	}
}

// room is the status by sums of numbers of any size.
func room(of api.Tree, uid, more int) api.Status {
	exceeds := func(bytes, limit int) bool {
		return new(big.Int).Add(big.NewInt(int64(bytes)), big.NewInt(int64(more))).Cmp(big.NewInt(int64(limit))) > 0
	}
	switch {
	case more < 1:
		return api.StOK
	case exceeds(used(of), of.Limits.Space):
		return api.StNoSpc
	case uid != 0 && exceeds(owned(of, uid), of.Limits.Quota):
		return api.StDQuot
	}
	return api.StOK
}

// trees are some with limits of all sizes, and nodes of the users 0, 1 and 2.
func trees() (list []api.Tree) {
	for _, nodes := range [][]api.Node{nil, {dir(0)}, {file(1, 5)}, {file(0, 5), file(1, 2)}, {file(0, 1), dir(1), file(1, 2), file(2, 3), file(1, 4)}} {
		for _, bytes := range append(odd(), 7, 10, 11) {
			for _, quota := range append(odd(), 6, 7) {
				list = append(list, tree(bytes, quota, 9, nodes...))
			}
		}
	}
	return list
}

// P21.3: limits of all sizes, with numbers of all sizes.
func TestRoomOfAllSizes(t *testing.T) {
	for _, of := range trees() {
		for _, uid := range []int{0, 1, 2, 3, -1, math.MinInt, math.MaxInt} {
			for _, more := range append(odd(), 3, 4, 6, of.Limits.Space-used(of), of.Limits.Space-used(of)+1, of.Limits.Quota-owned(of, uid), of.Limits.Quota-owned(of, uid)+1) {
				if got, want := space.Room(of, uid, more), room(of, uid, more); got != want {
					t.Fatalf("Room for %d of the user %d, with %+v, %d and %d used: %d, want %d", more, uid, of.Limits, used(of), owned(of, uid), got, want)
				}
			}
		}
	}
}

// P21.6: where there is room for some bytes, there is room for each smaller number of them.
func TestRoomForLess(t *testing.T) {
	chance := rand.New(rand.NewSource(3))
	for range 3000 {
		of := tree(chance.Intn(40), chance.Intn(30), 9)
		for range chance.Intn(5) {
			of.Nodes = append(of.Nodes, file(chance.Intn(3), chance.Intn(12)))
		}
		uid, is := chance.Intn(4), true
		for more := -5; more < 50; more++ {
			now := space.Room(of, uid, more) == api.StOK
			if now && !is {
				t.Fatalf("%+v, %d and %d used: room for %d of the user %d, but not for less", of.Limits, used(of), owned(of, uid), more, uid)
			}
			is = now
		}
	}
	for _, of := range trees() {
		for _, uid := range []int{0, 1, 2, 3} {
			is := true
			numbers := append(odd(), 3, 4, 6)
			slices.Sort(numbers)
			for _, more := range numbers {
				now := space.Room(of, uid, more) == api.StOK
				if now && !is {
					t.Fatalf("%+v, %d and %d used: room for %d of the user %d, but not for less", of.Limits, used(of), owned(of, uid), more, uid)
				}
				is = now
			}
		}
	}
}
