package index_test

import (
	"strings"
	"testing"

	"posthouse/api"
)

// oneOfKind is a change of each kind that is done in several().
func oneOfKind() []api.Change {
	return []api.Change{
		hold(2, 2, "new"), free(1, 2), file("new", attrOf(1)), gone("a"), bare("a"),
		named("a", "new", "u"), unname("a", "x"), block("a", 7, 7), unblock("a", 0),
	}
}

// refusesIn tells whether a change is refused in any cache.
func refusesIn(t *testing.T, name string, x api.Change) {
	t.Helper()
	for _, c := range caches() {
		refuses(t, name, c, x)
	}
}

// P18.2: each of the changes that the next tests spoil is done.
func TestOneOfKind(t *testing.T) {
	for _, x := range oneOfKind() {
		m := modelOf(several())
		if !m.apply(x) {
			t.Errorf("the model refuses %+v", x)
		}
		does(t, "of each kind", several(), x, m.cache())
	}
}

// P18.2: changes of kinds that are none, whatever else is in them, are refused.
func TestKindsThatAreNone(t *testing.T) {
	for _, kind := range append(odd(), 10, 11, 100, 256, 257, high+2, -1<<32+3) {
		if kind >= 1 && kind <= 9 {
			continue
		}
		refusesIn(t, "nothing else", api.Change{Kind: kind})
		for _, x := range oneOfKind() {
			x.Kind = kind
			refusesIn(t, "with fields", x)
		}
	}
}

// P18.2: changes of each kind with a field that this kind does not have are refused.
func TestFieldTooMany(t *testing.T) {
	more := []func(x *api.Change){
		func(x *api.Change) { x.Epoch = 1 },
		func(x *api.Change) { x.Serial = 2 },
		func(x *api.Change) { x.Up = "a" },
		func(x *api.Change) { x.Name = "x" },
		func(x *api.Change) { x.Child = "b" },
		func(x *api.Change) { x.Attr = attrOf(1) },
		func(x *api.Change) { x.Attr.Time = 1 },
		func(x *api.Change) { x.No = 1 },
		func(x *api.Change) { x.Slot = 7 },
	}
	bad := 0
	for _, x := range oneOfKind() {
		for _, add := range more {
			spoilt := x
			add(&spoilt)
			if !validChange(spoilt) {
				bad++
				refusesIn(t, "one field too many", spoilt)
			}
		}
	}
	// The nine kinds have 19 fields in all, of which the Attr is changed in two ways; all others are too many.
	if want := 9*9 - 20; bad != want {
		t.Errorf("%d changes have a field too many, want %d", bad, want)
	}
}

// P18.2: changes of each kind with a number at, just below and just above its bounds: in what is not valid they are refused, else done.
func TestNumbersOfChanges(t *testing.T) {
	fields := []func(x *api.Change) *int{
		func(x *api.Change) *int { return &x.Epoch },
		func(x *api.Change) *int { return &x.Serial },
		func(x *api.Change) *int { return &x.No },
		func(x *api.Change) *int { return &x.Slot },
	}
	for _, f := range attrFields() {
		fields = append(fields, func(x *api.Change) *int { return f.field(&x.Attr) })
	}
	for _, x := range oneOfKind() {
		for _, field := range fields {
			for _, n := range append(odd(), 7, 8, 4095, 4096) {
				changed := x
				*field(&changed) = n
				follows(t, changed)
			}
		}
	}
}

// P18.2: changes of each kind with a string of any length.
func TestStringsOfChanges(t *testing.T) {
	fields := []func(x *api.Change) *string{
		func(x *api.Change) *string { return &x.Up },
		func(x *api.Change) *string { return &x.Name },
		func(x *api.Change) *string { return &x.Child },
	}
	for _, x := range oneOfKind() {
		for _, field := range fields {
			for _, n := range []int{0, 1, 2, 63, 64, 65, 254, 255, 256, 257, 70000} {
				changed := x
				*field(&changed) = strings.Repeat("a", n)
				follows(t, changed)
			}
		}
	}
}

// follows tells whether a change does in several() what it does in the model.
func follows(t *testing.T, x api.Change) {
	t.Helper()
	m := modelOf(several())
	if m.apply(x) {
		does(t, "as in the model", several(), x, m.cache())
	} else {
		refuses(t, "as in the model", several(), x)
	}
}
