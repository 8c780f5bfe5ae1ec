package slots_test

import (
	"math/rand"
	"testing"

	"posthouse/slots"
)

// step is one step: a slot is used, or given back, or one is taken, or all are settled.
func (b both) step(kind int) {
	b.t.Helper()
	switch n := len(b.model); {
	case kind < n:
		b.use(kind)
	case kind < 2*n:
		b.give(kind - n)
	case kind == 2*n:
		b.take()
	default:
		b.settle()
	}
}

// P16.2, P16.3, P16.4: each sequence of some steps on one slot, two and three.
func TestEachSequence(t *testing.T) {
	sequences(t, 1, 8)
	sequences(t, 2, 6)
	sequences(t, 3, 5)
}

// sequences is each sequence of so many steps on n slots.
func sequences(t *testing.T, n, length int) {
	kinds := 2*n + 2
	count := 1
	for range length {
		count *= kinds
	}
	for steps := range count {
		b := begin(t, n)
		for range length {
			b.step(steps % kinds)
			steps /= kinds
		}
	}
}

// P16.2, P16.3, P16.4: any steps, on few slots and on many, now and then on one that there is not.
func TestAnySteps(t *testing.T) {
	chance := rand.New(rand.NewSource(1))
	for _, n := range []int{1, 2, 3, 7, 16, 100} {
		for range 10 {
			b := begin(t, n)
			for range 600 {
				switch i := chance.Intn(n+2) - 1; chance.Intn(8) {
				case 0, 1, 2:
					b.take()
				case 3:
					b.use(i)
				case 4, 5, 6:
					b.give(i)
				default:
					b.settle()
				}
			}
		}
	}
}

// P16.5: a slot that was given back is neither taken nor used before Settle; all of them are free then.
func TestGivenIsNotTaken(t *testing.T) {
	chance := rand.New(rand.NewSource(2))
	count := map[string]int{}
	for _, n := range []int{1, 2, 3, 9, 40} {
		s, _ := slots.New(n)
		given := map[int]int{}
		for range 4000 {
			switch i := chance.Intn(n); chance.Intn(2*n + 2) {
			case 0:
				if got := s.Settle(); got != len(given) {
					t.Fatalf("Settle() = %d, given back were %d", got, len(given))
				}
				for k := range given {
					if s.State(k) != slots.Free {
						t.Fatalf("Settle: State(%d) = %d", k, s.State(k))
					}
				}
				clear(given)
				count["settled"]++
			case 1, 2:
				if s.Use(i) && given[i] > 0 {
					t.Fatalf("slot %d was given back, and is used", i)
				}
			default:
				taken, is := s.Take()
				if is && given[taken] > 0 {
					t.Fatalf("slot %d was given back, and is taken", taken)
				}
				if is && len(given) > 0 {
					count["another one taken"]++
				}
				if s.Give(i) {
					given[i]++
				}
			}
		}
	}
	if count["settled"] < 100 || count["another one taken"] < 100 {
		t.Errorf("how often: %v", count)
	}
}
