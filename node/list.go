package node

import (
	"math"

	"posthouse/api"
)

// entrySize is the bytes that an entry takes besides those of its name.
const entrySize = 24

// named asks for the entry of a name.
func named(name string) func(api.Entry) bool {
	return func(e api.Entry) bool { return e.Name == name }
}

// upTo asks for the entries up to a cookie.
func upTo(cookie int) func(api.Entry) bool {
	return func(e api.Entry) bool { return e.Cookie <= cookie }
}

// fitting asks one entry after the other whether it fits behind those that did, if each takes so many more bytes.
func fitting(count, more int) func(api.Entry) bool {
	left := count
	return func(e api.Entry) bool {
		// more is taken first: what an entry has of its own is too little to make up for a difference that was cut off, but a number more below 0 is not.
		left = less(less(left, more), entrySize+len(e.Name))
		return left >= 0
	}
}

// less is a less b, or the smallest or greatest number if that is beyond it.
func less(a, b int) int {
	switch {
	case b > 0 && a < math.MinInt+b:
		return math.MinInt
	case b < 0 && a > math.MaxInt+b:
		return math.MaxInt
	}
	return a - b
}

// without is the entries that do not go, in new memory.
func without(l []api.Entry, goes func(api.Entry) bool) []api.Entry {
	var stay []api.Entry
	for _, e := range l {
		if !goes(e) {
			stay = append(stay, e)
		}
	}
	return stay
}

// leading is the entries ahead of the first one that does not come along, in new memory.
func leading(l []api.Entry, comes func(api.Entry) bool) []api.Entry {
	var lead []api.Entry
	for _, e := range l {
		if !comes(e) {
			break
		}
		lead = append(lead, e)
	}
	return lead
}
