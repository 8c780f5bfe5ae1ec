package clock_test

import (
	"math"
	"slices"
	"testing"

	"posthouse/clock"
)

// place is a key of two parts.
type place struct {
	name string
	no   int
}

// P15.1, P15.2, P15.3: keys that are structs, arrays, and values of an interface.
func TestOtherKeys(t *testing.T) {
	at := new(int)
	for n := range 4 {
		for set := range 1 << n {
			marked(t, []place{{}, {"", 1}, {"a", 0}, {"a", 1}}, n, set).victim()
			marked(t, [][2]int{{}, {0, 1}, {1, 0}, {1, 1}}, n, set).victim()
			marked(t, []any{nil, 0, "", at, new(int), place{}}, n, set).victim()
		}
	}
}

// P1: values that can't be compared are no keys, and no call panics at one.
func TestNotCompared(t *testing.T) {
	for _, k := range []any{[]int{1}, map[int]int{}, func() {}, [1]any{[]int{}}, struct{ a any }{func() {}}} {
		for _, c := range []*clock.Clock[any]{nil, {}, clock.New[any]()} {
			c.Touch(k)
			if c.Has(k) || c.Marked(k) || c.Drop(k) || c.Len() != 0 {
				t.Errorf("%T: Has %v, Marked %v, Len %d", k, c.Has(k), c.Marked(k), c.Len())
			}
			if _, is := c.Victim(); is {
				t.Errorf("%T: Victim returned a key", k)
			}
		}
		b := marked(t, []any{"a", 5, nil}, 2, 1)
		b.clock.Touch(k)
		b.clock.Drop(k)
		b.agree("no key")
		b.victim()
	}
}

// P1, P15.1: a number that equals nothing is never there, so each Touch adds one; Victim ends with it.
func TestNotANumber(t *testing.T) {
	c := clock.New[float64]()
	odd := math.NaN()
	c.Touch(1)
	c.Touch(odd)
	c.Touch(odd)
	if c.Len() != 3 || len(c.Keys()) != 3 || c.Has(odd) || c.Marked(odd) || c.Drop(odd) {
		t.Errorf("Len %d, Keys %v, Has %v, Marked %v", c.Len(), c.Keys(), c.Has(odd), c.Marked(odd))
	}
	for range 2 {
		if k, is := c.Victim(); k == k || !is {
			t.Errorf("Victim() = %v, %v", k, is)
		}
	}
	if !c.Drop(1) || c.Len() != 2 {
		t.Errorf("Len %d", c.Len())
	}
}

// P15.1: 0 and -0 are the same number.
func TestMinusZero(t *testing.T) {
	c := clock.New[float64]()
	c.Touch(0)
	c.Touch(math.Copysign(0, -1))
	if c.Len() != 1 || !c.Has(0) || !slices.Equal(c.Keys(), []float64{0}) {
		t.Errorf("Keys %v", c.Keys())
	}
}
