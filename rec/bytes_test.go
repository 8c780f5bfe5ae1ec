package rec_test

import (
	"slices"
	"strings"
	"testing"

	"posthouse/api"
)

// records is the records of no changes, of each kind alone, and of several.
func records() []string {
	list := []string{"\x00\x00\x00\x00"}
	for _, p := range slices.Concat(ordinary(), least()) {
		list = append(list, one+p.bytes)
	}
	for _, n := range []int{2, 9, 15, 16} {
		_, record := many(n)
		list = append(list, record)
	}
	return list
}

// P17.2: no bytes, each beginning of a record, and a record with bytes behind it.
func TestCutAndFollowed(t *testing.T) {
	fails(t, "no bytes", "")
	for _, record := range records() {
		for n := range len(record) {
			fails(t, "cut", record[:n])
		}
		for _, more := range []string{"\x00", "\x01", "\xff", "\x00\x00", "\x00\x00\x00", "\x00\x00\x00\x00", one, ab, one + ab, "\x00\x00\x00\x04" + ab, record, string(make([]byte, 1000))} {
			fails(t, "followed", record+more)
		}
		fails(t, "with a byte ahead", "\x00"+record)
	}
}

// P17.2: a number of changes that is another one than that of the changes that are there, or is greater than it may be.
func TestAnotherNumber(t *testing.T) {
	for n := 0; n <= 18; n++ {
		_, record := many(n)
		for _, other := range []int{0, 1, 2, 3, 8, 9, 10, 15, 16, 17, 18, 19, 255, 256, 65536, 1 << 24, 1<<24 + n, 1<<31 - 1, 1 << 31, 1<<31 + n, high - 1, high} {
			if other != n || n > 16 {
				fails(t, "another number", bytes32(other)+record[4:])
			}
		}
	}
	for _, n := range []int{17, 1 << 20, high} {
		fails(t, "a number alone", bytes32(n))
		fails(t, "a number and zero bytes", bytes32(n)+string(make([]byte, 4096)))
	}
}

// P17.2: a kind that is none, for each change, at the first, a middle and the last place.
func TestKindsThatAreNotRead(t *testing.T) {
	for _, kind := range []int{0, 10, 11, 12, 255, 256, 257, 1 << 24, 1<<24 + 4, 1 << 31, 1<<31 + 4, high - 1, high} {
		fails(t, "a kind alone", one+bytes32(kind))
		for _, p := range slices.Concat(ordinary(), least()) {
			bad := bytes32(kind) + p.bytes[4:]
			fails(t, "a kind that is none", one+bad)
			for at := range 3 {
				fails(t, "a kind that is none, among others", placed(at, bad))
			}
		}
	}
}

// placed is the record of three changes of which one has these bytes.
func placed(at int, bytes string) string {
	all := []string{ordinary()[0].bytes, ordinary()[3].bytes, ordinary()[8].bytes}
	all[at] = bytes
	return "\x00\x00\x00\x03" + strings.Join(all, "")
}

// P17.2: the bytes of each change, read as another kind's: as the change of that kind that has these fields, or that happens to have these bytes, or as none.
func TestBytesOfAnotherKind(t *testing.T) {
	for _, p := range ordinary() {
		for kind := 1; kind <= kinds; kind++ {
			bytes := bytes32(kind) + p.bytes[4:]
			if readOrNot(t, one+bytes); slices.Equal(layout(kind), layout(p.change.Kind)) {
				x := p.change
				x.Kind = kind
				holdsOne(t, "bytes of another kind", pair{x, bytes})
			}
		}
	}
}

// P17.2: wrong bytes in the place of each field, between all others as they are, at the first, a middle and the last place.
func TestWrongBytes(t *testing.T) {
	for _, p := range slices.Concat(ordinary(), least()) {
		for _, f := range fields() {
			if !f.has(p.change.Kind) {
				continue
			}
			for _, bytes := range wrong(f) {
				bad := swapped(p.change, f, bytes)
				fails(t, f.name, one+bad)
				for at := range 3 {
					fails(t, f.name+", among others", placed(at, bad))
				}
			}
		}
	}
}

// wrong is bytes that no valid value of a field has.
func wrong(f field) []string {
	switch f.name {
	case "Epoch":
		return []string{"\x00\x00\x00\x00"} // any four other bytes are an Epoch
	case "Serial":
		return append(wrongWides(), string(make([]byte, 8)))
	case "Up", "Child":
		return wrongTexts(f, 64)
	case "Name":
		return wrongTexts(f, 255)
	case "Attr":
		return wrongAttrs()
	}
	return []string{"\x00\x01\x00\x00", "\x00\x01\x00\x01", "\x01\x00\x00\x00", "\x7f\xff\xff\xff", "\x80\x00\x00\x00", "\xff\xff\x00\x00", "\xff\xff\xff\xff"}
}

func wrongWides() []string {
	return []string{"\x80\x00\x00\x00\x00\x00\x00\x00", "\x80\x00\x00\x00\x00\x00\x00\x05", "\xff\xff\xff\xff\xff\xff\xff\xff"}
}

// wrongTexts is strings with wrong padding, with fewer or more bytes than there may be, and with lengths beyond the end.
func wrongTexts(f field, most int) []string {
	list := []string{
		"\x00\x00\x00\x01a\x01\x00\x00", "\x00\x00\x00\x01a\x00\x01\x00", "\x00\x00\x00\x01a\x00\x00\x01", "\x00\x00\x00\x01a\xff\xff\xff",
		"\x00\x00\x00\x02ab\x80\x00", "\x00\x00\x00\x02ab\x00\x80", "\x00\x00\x00\x03abc ", "\x00\x00\x00\x05abcde\x00\x00\xff",
		"\x00\x00\x10\x00abcd", "\x7f\xff\xff\xffabcd", "\x80\x00\x00\x00", "\x80\x00\x00\x04abcd", "\xff\xff\xff\xff", "\xff\xff\xff\xffabcd",
	}
	for _, n := range []int{most + 1, most + 2, most + 3, most + 4, most + 5, 1000, 1 << 20, 1<<20 + 1} {
		list = append(list, bytesText(strings.Repeat("a", n)), bytesText(string(make([]byte, n))), bytes32(n))
	}
	if f.name != "Child" {
		list = append(list, "\x00\x00\x00\x00", "\x00\x00\x00\x00\x00\x00\x00\x00")
	}
	return append(list, bytes32(most)+strings.Repeat("a", most-1), bytes32(most)+strings.Repeat("a", most/4*4-4))
}

// wrongAttrs is the bytes of attributes of which one number is beyond what it may be.
func wrongAttrs() []string {
	bytes, list := bytesAttr(someFile()), []string(nil)
	put := func(at int, number string) { list = append(list, bytes[:at]+number+bytes[at+len(number):]) }
	for _, n := range []int{0, 8, 255, 256, 257, 1<<24 + 1, 1 << 31, 1<<31 + 1, high} {
		put(0, bytes32(n))
	}
	for _, n := range []int{4096, 4097, 8191, 65535, 1 << 24, 1 << 31, high} {
		put(4, bytes32(n))
	}
	for _, at := range []int{20, 32, 40, 48} {
		for _, number := range wrongWides() {
			put(at, number)
		}
	}
	return list
}

// P17.2: what is read does not hang on earlier calls, whether they went well or not.
func TestReadAgain(t *testing.T) {
	for n := range 17 {
		l, record := many(n)
		holds(t, "first", l, record)
		fails(t, "in between", record+one)
		refused(t, "in between", append(slices.Clone(l), make([]api.Change, 17)...), api.ErrLong)
		holds(t, "again", l, record)
	}
}
