package clock_test

import (
	"math/rand"
	"slices"
	"strconv"
	"testing"

	"posthouse/clock"
)

// P15.1, P15.2, P15.3: each sequence of six steps on three keys.
func TestEachSequence(t *testing.T) {
	sequences(t, texts()[:3])
	sequences(t, numbers()[:3])
}

func sequences[K comparable](t *testing.T, all []K) {
	kinds := 2*len(all) + 1
	count := 1
	for range 6 {
		count *= kinds
	}
	for steps := range count {
		b := begin(t, all)
		for range 6 {
			b.step(steps % kinds)
			steps /= kinds
		}
	}
}

// step is one step: a key is touched, or dropped, or Victim is asked.
func (b *both[K]) step(kind int) {
	b.t.Helper()
	switch n := len(b.all); {
	case kind < n:
		b.touch(b.all[kind])
	case kind < 2*n:
		b.drop(b.all[kind-n])
	default:
		b.victim()
	}
}

// anyStep is a step by chance: of eight, two drop a key, and three ask Victim.
func (b *both[K]) anyStep(chance *rand.Rand) {
	b.t.Helper()
	i := chance.Intn(len(b.all))
	switch of := chance.Intn(8); {
	case of < 3:
		b.step(i)
	case of < 5:
		b.step(len(b.all) + i)
	default:
		b.step(2 * len(b.all))
	}
}

// P15.1, P15.2, P15.3: any steps, on few keys and on many.
func TestAnySteps(t *testing.T) {
	chance := rand.New(rand.NewSource(1))
	anySteps(t, chance, texts())
	anySteps(t, chance, numbers())
	many, named := make([]int, 60), make([]string, 60)
	for i := range many {
		many[i], named[i] = i-30, strconv.Itoa(i)
	}
	anySteps(t, chance, many)
	anySteps(t, chance, named)
}

func anySteps[K comparable](t *testing.T, chance *rand.Rand, all []K) {
	for range 20 {
		b := begin(t, all)
		for range 400 {
			b.anyStep(chance)
		}
	}
}

// P15.4: a key that was touched since Victim last returned one is returned next only if all others are marked, too: they were touched, and Victim has not passed them by since.
func TestTouchedIsNotNext(t *testing.T) {
	chance := rand.New(rand.NewSource(2))
	touchedIsNotNext(t, chance, texts())
	touchedIsNotNext(t, chance, numbers())
}

func touchedIsNotNext[K comparable](t *testing.T, chance *rand.Rand, all []K) {
	count := map[string]int{}
	c, touched := clock.New[K](), map[K]int{}
	for range 40000 {
		k := all[chance.Intn(len(all))]
		switch of := chance.Intn(16); {
		case of < 11:
			c.Touch(k)
			touched[k]++
		case of == 11:
			c.Drop(k)
			delete(touched, k)
		default:
			unmarked := slices.DeleteFunc(c.Keys(), c.Marked)
			victim, is := c.Victim()
			if !is {
				continue
			}
			switch {
			case touched[victim] > 0 && len(unmarked) > 0:
				t.Fatalf("%v was touched, %v are not marked, and Victim returns it", victim, unmarked)
			case touched[victim] > 0:
				count["all marked"]++
			case len(touched) > 0:
				count["another one"]++
			}
			clear(touched)
		}
	}
	if count["all marked"] < 100 || count["another one"] < 100 {
		t.Errorf("how often: %v", count)
	}
}

// P15.4: if there is a key that was never touched since Victim took its mark away, none that was touched is returned.
func TestOneIsNotTouched(t *testing.T) {
	all := numbers()
	for i := range all {
		b := marked(t, all, len(all), 1<<len(all)-1-1<<i)
		if k, is := b.victim(); k != all[i] || !is {
			t.Errorf("all were touched but %d: Victim() = %d, %v", all[i], k, is)
		}
	}
}

// P15.5: if each key that Victim returns is dropped, and none is touched in between, all keys are returned, each once, and then none.
func TestAllGo(t *testing.T) {
	chance := rand.New(rand.NewSource(3))
	allGo(t, chance, texts())
	allGo(t, chance, numbers())
}

func allGo[K comparable](t *testing.T, chance *rand.Rand, all []K) {
	for range 500 {
		b := begin(t, all)
		for range chance.Intn(40) {
			b.anyStep(chance)
		}
		left := b.clock.Keys()
		for k, is := b.victim(); is; k, is = b.victim() {
			i := slices.Index(left, k)
			if i < 0 {
				t.Fatalf("Victim() = %v, which is not left", k)
			}
			left = slices.Delete(left, i, i+1)
			b.drop(k)
		}
		if len(left) > 0 || b.clock.Len() != 0 {
			t.Fatalf("never returned: %v; Len %d", left, b.clock.Len())
		}
	}
}

// P1, P15.5: as many keys as a great cache has, dropped from the middle, and as Victim returns them.
func TestManyKeys(t *testing.T) {
	const n = 1 << 17
	c := clock.New[int]()
	for k := range n {
		c.Touch(k)
	}
	for k := 1; k < n; k += 2 {
		if !c.Drop(k) {
			t.Fatalf("Drop(%d) = false", k)
		}
	}
	for want := 0; want < n; want += 2 {
		if k, is := c.Victim(); k != want || !is || !c.Drop(k) {
			t.Fatalf("Victim() = %d, %v, want %d", k, is, want)
		}
	}
	if k, is := c.Victim(); k != 0 || is || c.Len() != 0 {
		t.Errorf("Victim() = %d, %v; Len %d", k, is, c.Len())
	}
}
