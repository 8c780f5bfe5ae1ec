package slots_test

import (
	"math"
	"testing"

	"posthouse/api"
	"posthouse/slots"
)

// P16.3: the document's example.
func TestExample(t *testing.T) {
	b := begin(t, 2)
	takes(t, b, 0, true)
	takes(t, b, 1, true)
	if !b.give(0) {
		t.Error("Give(0) = false")
	}
	takes(t, b, 0, false)
	if n := b.settle(); n != 1 {
		t.Errorf("Settle() = %d, want 1", n)
	}
	takes(t, b, 0, true)
}

// takes tells whether that slot is taken next, or none.
func takes(t *testing.T, b both, want int, wantIs bool) {
	t.Helper()
	if i, is := b.take(); i != want || is != wantIs {
		t.Errorf("Take() = %d, %v, want %d, %v", i, is, want, wantIs)
	}
}

// P16.4: the three constants, which are of no type of their own.
func TestConstants(t *testing.T) {
	var small uint8 = slots.Free
	var number int = slots.Used
	var real float64 = slots.Waiting
	if small != 1 || number != 2 || real != 3 {
		t.Errorf("Free %d, Used %d, Waiting %v", slots.Free, slots.Used, slots.Waiting)
	}
}

// P16.1: how many slots there may be.
func TestNew(t *testing.T) {
	for _, n := range []int{1, 2, 3, 65535, 65536} {
		b := begin(t, n)
		if free, used, waiting := b.slots.Count(); free != n || used != 0 || waiting != 0 {
			t.Errorf("New(%d): Count %d, %d, %d", n, free, used, waiting)
		}
		b.use(n - 1)
		b.give(n - 1)
		b.settle()
	}
	for _, n := range []int{0, -1, -2, 65537, 65538, 1 << 32, 1<<32 + 1, -1 << 32, math.MinInt, math.MaxInt} {
		if s, err := slots.New(n); s != nil || err != api.ErrRange {
			t.Errorf("New(%d) = %v, error %d", n, s, err)
		}
	}
}

// P16.4: nil slots, and ones that New did not make.
func TestNoSlots(t *testing.T) {
	for _, s := range []*slots.Slots{nil, {}, new(slots.Slots)} {
		for range 2 {
			for _, i := range append(outside(0), 2, 65535, 65536) {
				if s.Use(i) || s.Give(i) || s.State(i) != 0 {
					t.Errorf("of slot %d: Use %v, Give %v, State %d", i, s.Use(i), s.Give(i), s.State(i))
				}
			}
			if i, is := s.Take(); i != 0 || is {
				t.Errorf("Take() = %d, %v", i, is)
			}
			if n := s.Settle(); n != 0 {
				t.Errorf("Settle() = %d", n)
			}
			if free, used, waiting := s.Count(); free != 0 || used != 0 || waiting != 0 {
				t.Errorf("Count %d, %d, %d", free, used, waiting)
			}
		}
	}
}

// P16.2: the smallest free slot is taken, one after another, till none is free.
func TestTake(t *testing.T) {
	for _, n := range []int{1, 2, 3, 70, 300} {
		b := begin(t, n)
		for i := range n {
			takes(t, b, i, true)
		}
		takes(t, b, 0, false)
		takes(t, b, 0, false)
	}
}

// P16.2: the greatest number of slots is taken, given back, settled and taken again.
func TestTakeOfMany(t *testing.T) {
	const n = 65536
	s, _ := slots.New(n)
	for range 2 {
		for want := range n {
			if i, is := s.Take(); i != want || !is {
				t.Fatalf("Take() = %d, %v, want %d", i, is, want)
			}
		}
		if i, is := s.Take(); i != 0 || is {
			t.Fatalf("none is free: Take() = %d, %v", i, is)
		}
		for i := n - 1; i >= 0; i-- {
			if !s.Give(i) {
				t.Fatalf("Give(%d) = false", i)
			}
		}
		if free, used, waiting := s.Count(); free != 0 || used != 0 || waiting != n {
			t.Fatalf("Count %d, %d, %d", free, used, waiting)
		}
		if settled := s.Settle(); settled != n {
			t.Fatalf("Settle() = %d", settled)
		}
	}
}

// P16.2: a slot that is used is passed over, wherever it is.
func TestTakePassesOver(t *testing.T) {
	for set := range 1 << 5 {
		b := begin(t, 5)
		for i := range 5 {
			if set>>i&1 == 1 {
				b.use(i)
			}
		}
		for i := range 5 {
			if set>>i&1 == 0 {
				takes(t, b, i, true)
			}
		}
		takes(t, b, 0, false)
	}
}

// P16.2, P16.3: behind Give not the slot that was given is taken, but the smallest free one; behind Settle, the smallest one of all that are free.
func TestTakeBehindGive(t *testing.T) {
	for given := range 4 {
		b := begin(t, 6)
		for i := range 4 {
			takes(t, b, i, true)
		}
		b.give(given)
		takes(t, b, 4, true)
		b.settle()
		takes(t, b, given, true)
		takes(t, b, 5, true)
		takes(t, b, 0, false)
	}
}

// P16.2, P16.3: behind Settle the slots are taken from the smallest on, whichever was given first.
func TestTakeBehindSettle(t *testing.T) {
	b := begin(t, 7)
	for i := range 7 {
		takes(t, b, i, true)
	}
	for _, i := range []int{5, 1, 3} {
		b.give(i)
	}
	b.settle()
	takes(t, b, 1, true)
	b.give(6)
	b.give(0)
	takes(t, b, 3, true)
	b.settle()
	takes(t, b, 0, true)
	takes(t, b, 5, true)
	takes(t, b, 6, true)
	takes(t, b, 0, false)
}

// P16.2, P16.3: Use and Give of a slot that is free, used and waiting.
func TestUseAndGive(t *testing.T) {
	for _, n := range []int{1, 2, 5} {
		for i := range n {
			b := begin(t, n)
			for _, step := range []struct {
				call  func(int) bool
				want  bool
				state int
			}{
				{b.give, false, slots.Free},
				{b.use, true, slots.Used},
				{b.use, false, slots.Used},
				{b.give, true, slots.Waiting},
				{b.give, false, slots.Waiting},
				{b.use, false, slots.Waiting},
			} {
				if got := step.call(i); got != step.want || b.slots.State(i) != step.state {
					t.Errorf("slot %d of %d: %v, State %d, want %v, State %d", i, n, got, b.slots.State(i), step.want, step.state)
				}
			}
			b.settle()
			if !b.use(i) {
				t.Errorf("slot %d of %d was settled: Use = false", i, n)
			}
		}
	}
}

// P16.2, P16.3: Use and Give of slots that there are not; the others remain as they are.
func TestOutside(t *testing.T) {
	for _, n := range []int{1, 2, 5} {
		b := begin(t, n)
		for range 3 {
			for _, i := range outside(n) {
				if b.use(i) || b.give(i) {
					t.Errorf("of %d slots, there is one with the number %d", n, i)
				}
			}
			b.take()
			b.give(0)
		}
	}
}

// P16.3: Settle of no waiting slot, of one, of several, and twice; those that are used remain so, and those that are free.
func TestSettle(t *testing.T) {
	for set := range 1 << 5 {
		b := begin(t, 6)
		if got := b.settle(); got != 0 {
			t.Errorf("new: Settle() = %d", got)
		}
		want := 0
		for i := range 5 {
			takes(t, b, i, true)
			if set>>i&1 == 1 {
				b.give(i)
				want++
			}
		}
		if got := b.settle(); got != want {
			t.Errorf("given %b: Settle() = %d, want %d", set, got, want)
		}
		if got := b.settle(); got != 0 {
			t.Errorf("settled once more: Settle() = %d", got)
		}
	}
}

// P16.1, P16.4: two lots of slots know nothing of each other.
func TestSlotsAreTheirOwn(t *testing.T) {
	one, two := begin(t, 3), begin(t, 3)
	one.take()
	two.agree("Take of others")
	one.give(0)
	two.use(2)
	one.agree("Use of others")
	two.settle()
	one.agree("Settle of others")
	one.settle()
	two.agree("Settle of others")
}
