package reply_test

import (
	"math"
	"testing"

	"posthouse/api"
	"posthouse/reply"
)

// full is results all of whose fields are there, as none of a procedure's are.
func full() api.Reply {
	return api.Reply{
		Status: 70, Fh: "h", Obj: there(anAttr()), Dir: there(aDir()), Wcc: aWcc(), Wcc2: otherWcc(), Access: 7, Count: 8, Eof: true, Data: someText, Stable: 9, Verf: 10,
		Entries: []api.Entry{{Gen: 1, Name: "a", Cookie: 2, Attr: there(aDir()), Fh: "f"}, {Gen: 3, Name: "b", Cookie: 4, Attr: there(anAttr()), Fh: "g"}},
		Nums:    []int{1, 2, 3},
	}
}

// change is how results become others, in one field alone.
type change struct {
	name string
	do   func(r *api.Reply)
}

func changes() []change {
	list := []change{
		{"Status", func(r *api.Reply) { r.Status++ }},
		{"Fh", func(r *api.Reply) { r.Fh += "\x00" }},
		{"Obj.Is", func(r *api.Reply) { r.Obj.Is = !r.Obj.Is }},
		{"Dir.Is", func(r *api.Reply) { r.Dir.Is = !r.Dir.Is }},
		{"Access", func(r *api.Reply) { r.Access++ }},
		{"Count", func(r *api.Reply) { r.Count++ }},
		{"Eof", func(r *api.Reply) { r.Eof = !r.Eof }},
		{"Data", func(r *api.Reply) { r.Data += "\x00" }},
		{"Stable", func(r *api.Reply) { r.Stable++ }},
		{"Verf", func(r *api.Reply) { r.Verf++ }},
		{"one more entry", func(r *api.Reply) { r.Entries = append(r.Entries[:len(r.Entries):len(r.Entries)], api.Entry{}) }},
		{"one more of Nums", func(r *api.Reply) { r.Nums = append(r.Nums[:len(r.Nums):len(r.Nums)], 0) }},
	}
	attrs := func(name string, of func(r *api.Reply) *api.Attr) {
		for i := range 10 {
			list = append(list, change{name + decimal(i), func(r *api.Reply) { *number(of(r), i) += 1 }})
		}
	}
	wccs := func(name string, of func(r *api.Reply) *api.Wcc) {
		list = append(list,
			change{name + ".Before.Is", func(r *api.Reply) { of(r).Before.Is = !of(r).Before.Is }},
			change{name + ".Before.N", func(r *api.Reply) { of(r).Before.N++ }},
			change{name + ".After.Is", func(r *api.Reply) { of(r).After.Is = !of(r).After.Is }})
		attrs(name+".After.Attr ", func(r *api.Reply) *api.Attr { return &of(r).After.Attr })
	}
	attrs("Obj.Attr ", func(r *api.Reply) *api.Attr { return &r.Obj.Attr })
	attrs("Dir.Attr ", func(r *api.Reply) *api.Attr { return &r.Dir.Attr })
	wccs("Wcc", func(r *api.Reply) *api.Wcc { return &r.Wcc })
	wccs("Wcc2", func(r *api.Reply) *api.Wcc { return &r.Wcc2 })
	return list
}

// number is the number of attributes in that place.
func number(a *api.Attr, i int) *int {
	return []*int{&a.Type, &a.Mode, &a.Nlink, &a.Uid, &a.Gid, &a.Size, &a.Id, &a.Gen, &a.Change, &a.Time}[i]
}

// listChanges is changes of results that have two entries and three numbers.
func listChanges() []change {
	list := []change{
		{"no entries", func(r *api.Reply) { r.Entries = nil }},
		{"entries of length 0", func(r *api.Reply) { r.Entries = r.Entries[:0] }},
		{"one entry less", func(r *api.Reply) { r.Entries = r.Entries[:1] }},
		{"another first entry", func(r *api.Reply) { r.Entries = r.Entries[1:] }},
		{"entries about", func(r *api.Reply) { r.Entries[0], r.Entries[1] = r.Entries[1], r.Entries[0] }},
		{"no Nums", func(r *api.Reply) { r.Nums = nil }},
		{"Nums of length 0", func(r *api.Reply) { r.Nums = r.Nums[:0] }},
		{"one of Nums less", func(r *api.Reply) { r.Nums = r.Nums[:2] }},
		{"another first one of Nums", func(r *api.Reply) { r.Nums = r.Nums[1:] }},
		{"Nums about", func(r *api.Reply) { r.Nums[0], r.Nums[2] = r.Nums[2], r.Nums[0] }},
	}
	for i := range 2 {
		list = append(list,
			change{"Gen", func(r *api.Reply) { r.Entries[i].Gen++ }},
			change{"Name", func(r *api.Reply) { r.Entries[i].Name += "\x00" }},
			change{"Cookie", func(r *api.Reply) { r.Entries[i].Cookie++ }},
			change{"Attr.Is", func(r *api.Reply) { r.Entries[i].Attr.Is = !r.Entries[i].Attr.Is }},
			change{"Fh", func(r *api.Reply) { r.Entries[i].Fh += "\x00" }})
		for place := range 10 {
			list = append(list, change{"Attr " + decimal(place), func(r *api.Reply) { *number(&r.Entries[i].Attr.Attr, place) += 1 }})
		}
	}
	for i := range 3 {
		list = append(list, change{"Nums", func(r *api.Reply) { r.Nums[i]++ }})
	}
	return list
}

// same tells whether Same says so of both orders.
func same(t *testing.T, name string, a, b api.Reply, want bool) {
	t.Helper()
	if reply.Same(a, b) != want || reply.Same(b, a) != want {
		t.Errorf("%s: Same(%+v, %+v) is not %t", name, a, b, want)
	}
}

// P8.4: results that differ in one field alone, for each field, for each field of an entry, and for lists.
func TestSameOfOneFieldThatDiffers(t *testing.T) {
	for _, begin := range []func() api.Reply{full, func() api.Reply { return api.Reply{} }} {
		for _, c := range changes() {
			a, b := begin(), begin()
			same(t, c.name+" ahead of it", a, b, true)
			c.do(&b)
			same(t, c.name, a, b, false)
			c.do(&a)
			same(t, c.name+" of both", a, b, true)
		}
	}
	for _, c := range listChanges() {
		a, b := full(), full()
		c.do(&b)
		same(t, c.name, a, b, false)
		c.do(&a)
		same(t, c.name+" of both", a, b, true)
	}
}

// P8.4: results that are not valid anywhere are equal, too, if all their fields are.
func TestSameOfAnyResults(t *testing.T) {
	for _, f := range fields() {
		for _, v := range f.values {
			a, b := api.Reply{Status: -1}, api.Reply{Status: -1}
			v.put(&a)
			same(t, f.name+" "+v.name, a, b, v.zero)
			v.put(&b)
			same(t, f.name+" "+v.name, a, b, true)
		}
	}
	for _, n := range []int{math.MinInt, -1, 1, math.MaxInt} {
		same(t, "Status", api.Reply{Status: api.Status(n)}, api.Reply{}, false)
	}
}

// P8.4: empty lists are equal, whether they are nil or not, and whatever stands behind them.
func TestSameOfEmptyLists(t *testing.T) {
	entries := [][]api.Entry{nil, {}, make([]api.Entry, 0, 5), full().Entries[:0], full().Entries[2:]}
	nums := [][]int{nil, {}, make([]int, 0, 5), full().Nums[:0], full().Nums[3:]}
	for i := range entries {
		for j := range nums {
			a := api.Reply{Entries: entries[i], Nums: nums[j]}
			same(t, "empty lists", a, api.Reply{}, true)
			same(t, "empty lists", a, api.Reply{Entries: entries[j], Nums: nums[i]}, true)
			same(t, "an entry", a, api.Reply{Entries: make([]api.Entry, 1)}, false)
			same(t, "a number", a, api.Reply{Nums: make([]int, 1)}, false)
		}
	}
}

// P8.4: Same changes nothing of what it is given.
func TestSameChangesNothing(t *testing.T) {
	a, b := full(), full()
	b.Nums[2] = 9
	reply.Same(a, b)
	if !equal(a, full()) || b.Nums[2] != 9 {
		t.Errorf("%+v and %+v", a, b)
	}
}

// P8.4: what Clone answers is equal.
func TestCloneIsEqual(t *testing.T) {
	list := []api.Reply{full(), {}, {Status: -1}, {Entries: []api.Entry{}, Nums: []int{}}}
	for _, g := range append(ordinary(), empties()...) {
		list = append(list, g.reply)
	}
	for _, c := range append(changes(), listChanges()...) {
		r := full()
		c.do(&r)
		list = append(list, r)
	}
	for _, f := range fields() {
		for _, v := range f.values {
			r := full()
			v.put(&r)
			list = append(list, r)
		}
	}
	for _, r := range list {
		was := twin(r)
		got := reply.Clone(r)
		if !equal(got, was) || !reply.Same(got, was) {
			t.Errorf("Clone(%+v) = %+v", was, got)
		}
		if !equal(r, was) {
			t.Errorf("Clone changed %+v to %+v", was, r)
		}
	}
}

// P8.4: what Clone answers shares no memory with what it was given, even where that has room behind its lists, nor do two clones.
func TestCloneIsInNewMemory(t *testing.T) {
	entries, nums := full().Entries, full().Nums
	for n := range len(entries) + 1 {
		r := full()
		r.Entries, r.Nums = entries[:n], nums[:n]
		one, two := reply.Clone(r), reply.Clone(r)
		spoil(one)
		if !equal(two, r) || !equal(api.Reply{Entries: entries, Nums: nums}, api.Reply{Entries: full().Entries, Nums: full().Nums}) {
			t.Errorf("when a clone was changed, %+v became %+v, and another clone %+v", full(), r, two)
		}
		was := twin(two)
		spoil(r)
		if !equal(two, was) {
			t.Errorf("when what was cloned was changed, %+v became %+v", was, two)
		}
		entries, nums = full().Entries, full().Nums
	}
}
