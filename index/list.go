package index

import (
	"cmp"
	"slices"
)

// find is the first element that is the one asked for. It looks at all of them: a list need not be in order to be searched.
func find[T any](l []T, is func(T) bool) (found T, has bool) {
	i := slices.IndexFunc(l, is)
	if i < 0 {
		return found, false
	}
	return l[i], true
}

// put lays an element where it belongs in a list that is in order: in the place of the one that is equal in what orders them, if there is one.
func put[T any](l *[]T, x T, order func(a, b T) int) {
	i, has := slices.BinarySearchFunc(*l, x, order)
	if has {
		(*l)[i] = x
		return
	}
	*l = slices.Insert(*l, i, x)
}

// drop takes away what goes, and tells whether anything does.
func drop[T any](l *[]T, goes func(T) bool) bool {
	was := len(*l)
	*l = slices.DeleteFunc(*l, goes)
	return len(*l) < was
}

// ascends tells whether each element is ahead of the next one, and equal to none in what orders them.
func ascends[T any](l []T, order func(a, b T) int) bool {
	for i := 1; i < len(l); i++ {
		if order(l[i-1], l[i]) >= 0 {
			return false
		}
	}
	return true
}

// differ tells whether no two elements have the same value.
func differ[T any, V cmp.Ordered](l []T, of func(T) V) bool {
	return len(values(l, of)) == len(l)
}

// values is what the elements have, in ascending order, each value once.
func values[T any, V cmp.Ordered](l []T, of func(T) V) []V {
	all := make([]V, 0, len(l))
	for _, x := range l {
		all = append(all, of(x))
	}
	slices.Sort(all)
	return slices.Compact(all)
}

// without takes out of values those that are among others, which are in ascending order.
func without[V cmp.Ordered](all, others []V) []V {
	return slices.DeleteFunc(all, func(v V) bool {
		_, is := slices.BinarySearch(others, v)
		return is
	})
}
