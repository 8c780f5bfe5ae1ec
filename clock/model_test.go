package clock_test

import (
	"math"
	"slices"
	"testing"

	"posthouse/clock"
)

// texts and numbers are keys of two types, with the empty text and 0 among them.
func texts() []string { return []string{"", "a", "b", "ab", "\x00", "\xff\x80"} }
func numbers() []int  { return []int{7, 0, -1, math.MaxInt, math.MinInt, 1 << 32} }

// entry is a key, and whether it is marked.
type entry[K comparable] struct {
	key    K
	marked bool
}

// model is a clock by the document's words: a sequence of keys, each at most once, each marked or not.
type model[K comparable] []entry[K]

// index is where a key stands, -1 if it does not.
func (m model[K]) index(k K) int {
	return slices.IndexFunc(m, func(e entry[K]) bool { return e.key == k })
}

func (m *model[K]) touch(k K) {
	i := m.index(k)
	if i < 0 {
		i = len(*m)
		*m = append(*m, entry[K]{key: k})
	}
	(*m)[i].marked = true
}

func (m *model[K]) victim() (k K, is bool) {
	if len(*m) == 0 {
		return k, false
	}
	for (*m)[0].marked {
		first := (*m)[0]
		first.marked = false
		*m = append((*m)[1:], first)
	}
	return (*m)[0].key, true
}

func (m *model[K]) drop(k K) bool {
	i := m.index(k)
	if i < 0 {
		return false
	}
	*m = slices.Delete(*m, i, i+1)
	return true
}

func (m model[K]) keys() (keys []K) {
	for _, e := range m {
		keys = append(keys, e.key)
	}
	return keys
}

// both is a clock and its model, to which the same things happen, and all keys of which one may ask.
type both[K comparable] struct {
	t     *testing.T
	clock *clock.Clock[K]
	model model[K]
	all   []K
}

// begin is a new clock and its model.
func begin[K comparable](t *testing.T, all []K) *both[K] {
	t.Helper()
	b := &both[K]{t: t, clock: clock.New[K](), all: all}
	if b.clock == nil {
		t.Fatal("New: nil")
	}
	b.agree("New")
	return b
}

// marked is a clock with the first n keys, of which those in a set of bits are marked.
func marked[K comparable](t *testing.T, all []K, n, set int) *both[K] {
	t.Helper()
	b := begin(t, all)
	for _, k := range all[:n] {
		b.touch(k)
	}
	// All of them are marked: so Victim takes all the marks away, and the first one is the first again.
	b.victim()
	for i, k := range all[:n] {
		if set>>i&1 == 1 {
			b.touch(k)
		}
	}
	return b
}

func (b *both[K]) touch(k K) {
	b.t.Helper()
	b.clock.Touch(k)
	b.model.touch(k)
	b.agree("Touch")
}

func (b *both[K]) victim() (K, bool) {
	b.t.Helper()
	want, wantIs := b.model.victim()
	got, is := b.clock.Victim()
	if got != want || is != wantIs {
		b.t.Errorf("Victim() = %v, %v, want %v, %v", got, is, want, wantIs)
	}
	b.agree("Victim")
	return got, is
}

func (b *both[K]) drop(k K) bool {
	b.t.Helper()
	want := b.model.drop(k)
	got := b.clock.Drop(k)
	if got != want {
		b.t.Errorf("Drop(%v) = %v, want %v", k, got, want)
	}
	b.agree("Drop")
	return got
}

// agree tells whether everything that can be asked of a clock is what the model has.
func (b *both[K]) agree(name string) {
	b.t.Helper()
	if got, want := b.clock.Keys(), b.model.keys(); !slices.Equal(got, want) {
		b.t.Errorf("%s: Keys %v, want %v", name, got, want)
	}
	if got, want := b.clock.Len(), len(b.model); got != want {
		b.t.Errorf("%s: Len %d, want %d", name, got, want)
	}
	for _, k := range b.all {
		i := b.model.index(k)
		if got, want := b.clock.Has(k), i >= 0; got != want {
			b.t.Errorf("%s: Has(%v) = %v, want %v", name, k, got, want)
		}
		if got, want := b.clock.Marked(k), i >= 0 && b.model[i].marked; got != want {
			b.t.Errorf("%s: Marked(%v) = %v, want %v", name, k, got, want)
		}
	}
	if b.t.Failed() {
		b.t.FailNow()
	}
}
