package clock_test

import (
	"slices"
	"testing"

	"posthouse/clock"
)

// P15.2: the document's example.
func TestExample(t *testing.T) {
	c := clock.New[string]()
	for _, k := range []string{"a", "b", "c"} {
		c.Touch(k)
	}
	if k, is := c.Victim(); k != "a" || !is {
		t.Errorf("Victim() = %q, %v, want a", k, is)
	}
	for _, k := range c.Keys() {
		if c.Marked(k) {
			t.Errorf("%s is marked yet", k)
		}
	}
	c.Touch("a")
	if k, is := c.Victim(); k != "b" || !is {
		t.Errorf("Victim() = %q, %v, want b", k, is)
	}
}

// P15.2, P15.3: a clock without keys.
func TestEmpty(t *testing.T) {
	empty(t, texts())
	empty(t, numbers())
}

func empty[K comparable](t *testing.T, all []K) {
	b := begin(t, all)
	for range 2 {
		b.victim()
		for _, k := range all {
			b.drop(k)
		}
	}
	if k, is := b.clock.Victim(); k != *new(K) || is {
		t.Errorf("Victim() = %v, %v", k, is)
	}
}

// P15.3: a nil clock, and one that New did not make, have no keys, and nothing has an effect.
func TestNoClock(t *testing.T) {
	noClock(t, texts())
	noClock(t, numbers())
}

func noClock[K comparable](t *testing.T, all []K) {
	for _, c := range []*clock.Clock[K]{nil, {}, new(clock.Clock[K])} {
		for _, k := range all {
			c.Touch(k)
			if c.Has(k) || c.Marked(k) || c.Drop(k) {
				t.Errorf("%v: Has %v, Marked %v, Drop %v", k, c.Has(k), c.Marked(k), c.Drop(k))
			}
			if victim, is := c.Victim(); victim != *new(K) || is {
				t.Errorf("Victim() = %v, %v", victim, is)
			}
			if c.Len() != 0 || len(c.Keys()) != 0 {
				t.Errorf("Len %d, Keys %v", c.Len(), c.Keys())
			}
		}
	}
}

// P15.1: a new key is the last one, and marked; one that is there is marked where it stands, also if it was marked before.
func TestTouch(t *testing.T) {
	touches(t, texts())
	touches(t, numbers())
}

func touches[K comparable](t *testing.T, all []K) {
	for n := range all {
		for i, k := range all[:n+1] {
			b := marked(t, all, n, 0)
			b.touch(k)
			if !b.clock.Marked(k) || !slices.Equal(b.clock.Keys(), all[:max(n, i+1)]) {
				t.Errorf("Touch(%v): Marked %v, Keys %v", k, b.clock.Marked(k), b.clock.Keys())
			}
			b.touch(k)
			b.victim()
			b.touch(k)
		}
	}
}

// P15.2: whichever keys are marked: what Victim returns, the order and the marks behind it, and that what it returned stays.
func TestVictim(t *testing.T) {
	victims(t, texts())
	victims(t, numbers())
}

func victims[K comparable](t *testing.T, all []K) {
	for n := range len(all) + 1 {
		for set := range 1 << n {
			b := marked(t, all, n, set)
			for range 3 {
				k, is := b.victim()
				if is != (n > 0) || b.clock.Has(k) != is || b.clock.Len() != n {
					t.Errorf("%d keys, marked %b: Victim() = %v, %v, then Len %d", n, set, k, is, b.clock.Len())
				}
			}
		}
	}
}

// P15.2: the same, for three keys, told one by one.
func TestVictimOfThree(t *testing.T) {
	for _, c := range []struct{ touched, order, marked string }{
		{"", "abc", ""},
		{"a", "bca", ""},
		{"b", "abc", "b"},
		{"c", "abc", "c"},
		{"ab", "cab", ""},
		{"ac", "bca", "c"},
		{"bc", "abc", "bc"},
		{"abc", "abc", ""},
		{"cba", "abc", ""},
	} {
		l := clock.New[rune]()
		for _, k := range "abc" {
			l.Touch(k)
		}
		l.Victim()
		for _, k := range c.touched {
			l.Touch(k)
		}
		// The second one finds the first key without a mark, whatever the others have.
		for range 2 {
			if k, is := l.Victim(); k != []rune(c.order)[0] || !is {
				t.Errorf("touched %q: Victim() = %q, %v, want the first one of %s", c.touched, k, is, c.order)
			}
			if string(l.Keys()) != c.order {
				t.Errorf("touched %q: Keys %q, want %s", c.touched, string(l.Keys()), c.order)
			}
			left := slices.DeleteFunc([]rune("abc"), func(k rune) bool { return !l.Marked(k) })
			if string(left) != c.marked {
				t.Errorf("touched %q: marked are %q, want %q", c.touched, string(left), c.marked)
			}
		}
	}
}

// P15.3: each key of a clock is dropped, marked or not, and once more; touched again, it is the last one.
func TestDrop(t *testing.T) {
	drops(t, texts())
	drops(t, numbers())
}

func drops[K comparable](t *testing.T, all []K) {
	for n := range len(all) + 1 {
		for set := range 1 << n {
			for i, k := range all {
				b := marked(t, all, n, set)
				if got := b.drop(k); got != (i < n) {
					t.Errorf("%d keys: Drop of the one at %d = %v", n, i, got)
				}
				if b.drop(k) || b.clock.Marked(k) {
					t.Errorf("%d keys: the one at %d was dropped, and is there or marked yet", n, i)
				}
				b.touch(k)
				keys := b.clock.Keys()
				if keys[len(keys)-1] != k {
					t.Errorf("%d keys: the one at %d was dropped and touched: Keys %v", n, i, keys)
				}
				b.victim()
				b.victim()
			}
		}
	}
}

// P15.3: the only key, and all of them, are dropped, and the clock goes on.
func TestDropAll(t *testing.T) {
	dropAll(t, texts())
	dropAll(t, numbers())
}

func dropAll[K comparable](t *testing.T, all []K) {
	b := begin(t, all)
	for n := range len(all) + 1 {
		for _, k := range all[:n] {
			b.touch(k)
		}
		b.victim()
		for _, k := range slices.Backward(all[:n]) {
			b.drop(k)
		}
		b.victim()
	}
}

// P15.3: a key that was dropped behind Victim, the first one then, is not the first one any more.
func TestDropOfVictim(t *testing.T) {
	b := begin(t, texts())
	for _, k := range []string{"a", "b", "ab"} {
		b.touch(k)
	}
	b.victim()
	b.touch("b")
	b.drop("a")
	if k, is := b.victim(); k != "ab" || !is {
		t.Errorf("Victim() = %q, %v, want ab", k, is)
	}
}

// P15.3: what Keys returned is in new memory, and the clock's own.
func TestNewMemory(t *testing.T) {
	b := marked(t, numbers(), 4, 5)
	keys := b.clock.Keys()
	for i := range keys {
		keys[i] = 99
	}
	keys = append(keys[:0], 98)
	b.agree("what Keys returned was written to")
	keys = b.clock.Keys()
	again := b.clock.Keys()
	again[0] = 97
	b.drop(numbers()[1])
	b.victim()
	b.touch(numbers()[5])
	if !slices.Equal(keys, numbers()[:4]) {
		t.Errorf("what was told earlier is %v now", keys)
	}
}

// P15.1, P15.3: two clocks know nothing of each other.
func TestClocksAreTheirOwn(t *testing.T) {
	one, two := begin(t, texts()), begin(t, texts())
	for _, k := range texts() {
		one.touch(k)
		two.agree("another clock was touched")
	}
	two.touch("b")
	two.victim()
	one.agree("a victim of another clock")
	one.drop("b")
	two.agree("Drop of another clock")
}
