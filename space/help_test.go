package space_test

import (
	"math"
	"slices"
	"strings"
	"testing"

	"posthouse/api"
	"posthouse/space"
)

// file is a node of a user with so many bytes; dir is one without any, that has entries and a size.
func file(uid, bytes int) api.Node {
	return api.Node{Attr: api.Attr{Type: api.TypeReg, Uid: uid, Gid: uid + 1, Id: 1}, Data: strings.Repeat("\xff", bytes)}
}

func dir(uid int) api.Node {
	return api.Node{Attr: api.Attr{Type: api.TypeDir, Uid: uid, Gid: 7, Size: 1000, Id: 1}, Entries: []api.Entry{{Gen: 2, Name: "a", Cookie: 1}}}
}

// tree is a tree with limits and nodes; of its other numbers nothing hangs on.
func tree(bytes, quota, most int, nodes ...api.Node) api.Tree {
	return api.Tree{Limits: api.Limits{Space: bytes, Quota: quota, Nodes: most}, Now: 3, Gens: 5, Nodes: nodes}
}

// same tells whether two trees are.
func same(a, b api.Tree) bool {
	nodes := func(a, b api.Node) bool {
		return a.Attr == b.Attr && a.Data == b.Data && slices.Equal(a.Entries, b.Entries)
	}
	return a.Limits == b.Limits && a.Now == b.Now && a.Gens == b.Gens && slices.EqualFunc(a.Nodes, b.Nodes, nodes)
}

// copied is a tree in new memory.
func copied(t api.Tree) api.Tree {
	t.Nodes = slices.Clone(t.Nodes)
	for i := range t.Nodes {
		t.Nodes[i].Entries = slices.Clone(t.Nodes[i].Entries)
	}
	return t
}

// rooms tells whether Room returns this, and leaves the tree as it is.
func rooms(t *testing.T, of api.Tree, uid, more int, want api.Status) {
	t.Helper()
	was := copied(of)
	if got := space.Room(of, uid, more); got != want {
		t.Errorf("Room for %d of the user %d, with %+v, %d and %d used: %d, want %d", more, uid, of.Limits, used(of), owned(of, uid), got, want)
	}
	if !same(of, was) {
		t.Errorf("Room has changed %v to %v", was, of)
	}
}

// used and owned are the bytes of all nodes, and of a user's.
func used(of api.Tree) (bytes int) {
	for _, n := range of.Nodes {
		bytes += len(n.Data)
	}
	return bytes
}

func owned(of api.Tree, uid int) (bytes int) {
	for _, n := range of.Nodes {
		if n.Attr.Uid == uid {
			bytes += len(n.Data)
		}
	}
	return bytes
}

// odd are the numbers around 0, at the limits' bounds, and at the ends of all.
func odd() []int {
	return []int{math.MinInt, math.MinInt + 1, -1 << 31, -2, -1, 0, 1, 2, 5, 63, 64, 65, 1<<30 - 1, 1 << 30, 1<<30 + 1, 1 << 62, math.MaxInt - 1, math.MaxInt}
}
