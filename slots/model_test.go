package slots_test

import (
	"math"
	"slices"
	"testing"

	"posthouse/api"
	"posthouse/slots"
)

// model is slots by the document's words: for each of them, that it is free (1), used (2) or waiting (3).
type model []int

// newModel is a model of n free slots.
func newModel(n int) model {
	return slices.Repeat(model{1}, n)
}

func (m model) take() (int, bool) {
	i := slices.Index(m, 1)
	if i < 0 {
		return 0, false
	}
	m[i] = 2
	return i, true
}

func (m model) state(i int) int {
	if i < 0 || i >= len(m) {
		return 0
	}
	return m[i]
}

func (m model) use(i int) bool {
	is := m.state(i) == 1
	if is {
		m[i] = 2
	}
	return is
}

func (m model) give(i int) bool {
	is := m.state(i) == 2
	if is {
		m[i] = 3
	}
	return is
}

func (m model) settle() int {
	n := m.count(3)
	for i, state := range m {
		if state == 3 {
			m[i] = 1
		}
	}
	return n
}

func (m model) count(state int) int {
	n := 0
	for _, s := range m {
		if s == state {
			n++
		}
	}
	return n
}

// outside are numbers of no slot, if there are n.
func outside(n int) []int {
	return []int{math.MinInt, -1 << 32, -2, -1, n, n + 1, 1 << 32, math.MaxInt}
}

// both is slots and their model, to which the same things happen.
type both struct {
	t     *testing.T
	slots *slots.Slots
	model model
}

// begin is n new slots and their model.
func begin(t *testing.T, n int) both {
	t.Helper()
	s, err := slots.New(n)
	if s == nil || err != api.OK {
		t.Fatalf("New(%d) = %v, error %d", n, s, err)
	}
	b := both{t, s, newModel(n)}
	b.agree("New")
	return b
}

func (b both) take() (int, bool) {
	b.t.Helper()
	want, wantIs := b.model.take()
	got, is := b.slots.Take()
	if got != want || is != wantIs {
		b.t.Errorf("Take() = %d, %v, want %d, %v", got, is, want, wantIs)
	}
	b.agree("Take")
	return got, is
}

func (b both) use(i int) bool {
	b.t.Helper()
	return b.same("Use", i, b.slots.Use(i), b.model.use(i))
}

func (b both) give(i int) bool {
	b.t.Helper()
	return b.same("Give", i, b.slots.Give(i), b.model.give(i))
}

func (b both) settle() int {
	b.t.Helper()
	want := b.model.settle()
	got := b.slots.Settle()
	if got != want {
		b.t.Errorf("Settle() = %d, want %d", got, want)
	}
	b.agree("Settle")
	return got
}

// same tells whether a call answered the right thing, and left behind what it should.
func (b both) same(name string, i int, got, want bool) bool {
	b.t.Helper()
	if got != want {
		b.t.Errorf("%s(%d) = %v, want %v", name, i, got, want)
	}
	b.agree(name)
	return got
}

// agree tells whether everything that can be asked of slots is what the model has.
func (b both) agree(name string) {
	b.t.Helper()
	for i, want := range b.model {
		if got := b.slots.State(i); got != want {
			b.t.Errorf("%s: State(%d) = %d, want %d", name, i, got, want)
		}
	}
	for _, i := range outside(len(b.model)) {
		if got := b.slots.State(i); got != 0 {
			b.t.Errorf("%s: State(%d) = %d, want 0", name, i, got)
		}
	}
	free, used, waiting := b.slots.Count()
	if free != b.model.count(1) || used != b.model.count(2) || waiting != b.model.count(3) {
		b.t.Errorf("%s: Count %d, %d, %d, want %d, %d, %d", name, free, used, waiting, b.model.count(1), b.model.count(2), b.model.count(3))
	}
	if b.t.Failed() {
		b.t.FailNow()
	}
}
