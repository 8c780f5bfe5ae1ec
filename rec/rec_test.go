package rec_test

import (
	"math"
	"slices"
	"strings"
	"testing"

	"posthouse/api"
	"posthouse/rec"
)

// pair is a change and its bytes.
type pair struct {
	change api.Change
	bytes  string
}

// Bytes of the fields in ordinary changes.
const (
	one   = "\x00\x00\x00\x01"
	epoch = "\x01\x02\x03\x04"
	wide  = "\x01\x02\x03\x04\x05\x06\x07\x08"
	ab    = "\x00\x00\x00\x02ab\x00\x00"
	cde   = "\x00\x00\x00\x03c\xffe\x00"
	f     = "\x00\x00\x00\x01f\x00\x00\x00"
	file  = "\x00\x00\x00\x01" + "\x00\x00\x0f\xff" + "\x00\x00\x00\x02" + "\x00\x00\x00\x03" + "\x00\x00\x00\x04" +
		"\x00\x00\x00\x00\x00\x00\x00\x05" + "\x00\x00\x00\x06" + "\x00\x00\x00\x00\x00\x00\x00\x07" + "\x00\x00\x00\x00\x00\x00\x00\x08" + "\x00\x00\x00\x00\x00\x00\x00\x09"
	no   = "\x00\x00\x12\x34"
	slot = "\x00\x00\xff\xfe"
)

// someFile is attributes of which each is another number.
func someFile() api.Attr {
	return api.Attr{Type: api.TypeReg, Mode: 4095, Nlink: 2, Uid: 3, Gid: 4, Size: 5, Id: 6, Gen: 7, Change: 8, Time: 9}
}

// ordinary is a change of each kind, in the order of their numbers, and its bytes.
func ordinary() []pair {
	return []pair{
		{api.Change{Kind: api.ChHold, Epoch: 0x01020304, Serial: 0x0102030405060708, Up: "ab"}, "\x00\x00\x00\x01" + epoch + wide + ab},
		{api.Change{Kind: api.ChFree, Epoch: 0x01020304, Serial: 0x0102030405060708}, "\x00\x00\x00\x02" + epoch + wide},
		{api.Change{Kind: api.ChFile, Up: "ab", Attr: someFile()}, "\x00\x00\x00\x03" + ab + file},
		{api.Change{Kind: api.ChGone, Up: "ab"}, "\x00\x00\x00\x04" + ab},
		{api.Change{Kind: api.ChBare, Up: "ab"}, "\x00\x00\x00\x05" + ab},
		{api.Change{Kind: api.ChName, Up: "ab", Name: "c\xffe", Child: "f"}, "\x00\x00\x00\x06" + ab + cde + f},
		{api.Change{Kind: api.ChUnname, Up: "ab", Name: "c\xffe"}, "\x00\x00\x00\x07" + ab + cde},
		{api.Change{Kind: api.ChBlock, Up: "ab", No: 0x1234, Slot: 0xfffe}, "\x00\x00\x00\x08" + ab + no + slot},
		{api.Change{Kind: api.ChUnblock, Up: "ab", No: 0x1234}, "\x00\x00\x00\x09" + ab + no},
	}
}

// least is a change of each kind that has as little as it may, and its bytes.
func least() []pair {
	var list []pair
	for kind := 1; kind <= kinds; kind++ {
		x := api.Change{Kind: kind}
		for _, name := range layout(kind) {
			switch name {
			case "Epoch":
				x.Epoch = 1
			case "Serial":
				x.Serial = 1
			case "Up":
				x.Up = "u"
			case "Name":
				x.Name = "\x00"
			case "Attr":
				x.Attr.Type = api.TypeReg
			}
		}
		list = append(list, pair{x, bytesOf(x)})
	}
	return list
}

// holds tells whether changes have this record, and are what it is read as.
func holds(t *testing.T, name string, l []api.Change, record string) {
	t.Helper()
	was := slices.Clone(l)
	if got, err := rec.Put(l); got != record || err != api.OK {
		t.Errorf("%s: Put(%+v) = %x, error %d, want %x", name, l, got, err, record)
	}
	if !slices.Equal(l, was) {
		t.Errorf("%s: Put made of %+v %+v", name, was, l)
	}
	if got, err := rec.Get(record); !slices.Equal(got, l) || err != api.OK {
		t.Errorf("%s: Get(%x) = %+v, error %d, want %+v", name, record, got, err, l)
	}
}

// holdsOne tells whether a change is valid, and one alone has the record of these bytes.
func holdsOne(t *testing.T, name string, p pair) {
	t.Helper()
	if err := rec.Check(p.change); err != api.OK {
		t.Errorf("%s: Check(%+v) = %d", name, p.change, err)
	}
	holds(t, name, []api.Change{p.change}, one+p.bytes)
}

// refused tells whether changes have no record, with that error.
func refused(t *testing.T, name string, l []api.Change, want api.Errno) {
	t.Helper()
	was := slices.Clone(l)
	if got, err := rec.Put(l); got != "" || err != want {
		t.Errorf("%s: Put of %d changes = %x, error %d, want %d", name, len(l), got, err, want)
	}
	if !slices.Equal(l, was) {
		t.Errorf("%s: Put made of %+v %+v", name, was, l)
	}
}

// refusedOne tells whether a change is not valid, and has no record.
func refusedOne(t *testing.T, name string, x api.Change) {
	t.Helper()
	if err := rec.Check(x); err != api.ErrForm {
		t.Errorf("%s: Check(%+v) = %d", name, x, err)
	}
	refused(t, name, []api.Change{x}, api.ErrForm)
}

// fails tells whether bytes are no record.
func fails(t *testing.T, name, record string) {
	t.Helper()
	if l, err := rec.Get(record); len(l) != 0 || err != api.ErrForm {
		t.Errorf("%s: Get(%x) = %+v, error %d", name, record, l, err)
	}
}

// changesIn is the changes of pairs, and bytesIn their bytes one after the other.
func changesIn(pairs []pair) (l []api.Change) {
	for _, p := range pairs {
		l = append(l, p.change)
	}
	return l
}

func bytesIn(pairs []pair) (all string) {
	for _, p := range pairs {
		all += p.bytes
	}
	return all
}

// P17.1, P17.2: the example of the chapter.
func TestExample(t *testing.T) {
	holdsOne(t, "ChGone of ab", pair{api.Change{Kind: api.ChGone, Up: "ab"}, "\x00\x00\x00\x04\x00\x00\x00\x02\x61\x62\x00\x00"})
}

// P17.1, P17.2: a valid change of each kind, with other values in all its fields, and with the least ones.
func TestEachKind(t *testing.T) {
	for _, p := range slices.Concat(ordinary(), least()) {
		holdsOne(t, "of each kind", p)
	}
}

// P17.1: kinds that there are not, whatever else is set.
func TestKindsThatAreNone(t *testing.T) {
	for _, kind := range []int{0, -1, -2, 10, 11, 12, 255, 256, 257, 65537, high, high + 1, high + 2, high + 5, -high, math.MaxInt, math.MinInt, math.MinInt + 4} {
		refusedOne(t, "nothing else", api.Change{Kind: kind})
		for _, p := range slices.Concat(ordinary(), least()) {
			x := p.change
			x.Kind = kind
			refusedOne(t, "with fields", x)
		}
	}
}

// P17.1, P17.2: no changes have a record, too.
func TestNoChanges(t *testing.T) {
	holds(t, "nil", nil, "\x00\x00\x00\x00")
	holds(t, "empty", []api.Change{}, "\x00\x00\x00\x00")
}

// P17.1, P17.2: one record with all kinds, byte by byte, in two orders.
func TestAllKinds(t *testing.T) {
	list := ordinary()
	holds(t, "all kinds", changesIn(list), "\x00\x00\x00\x09"+bytesIn(list))
	slices.Reverse(list)
	holds(t, "all kinds backwards", changesIn(list), "\x00\x00\x00\x09"+bytesIn(list))
	holds(t, "all kinds, with the least", changesIn(least()), "\x00\x00\x00\x09"+bytesIn(least()))
}

// many is so many changes, and their record.
func many(n int) ([]api.Change, string) {
	list := slices.Concat(ordinary(), least(), ordinary())[:n]
	return changesIn(list), bytes32(n) + bytesIn(list)
}

// P17.1, P17.2: each number of changes up to 16 has a record, and more don't.
func TestNumberOfChanges(t *testing.T) {
	for n := 0; n <= 16; n++ {
		l, record := many(n)
		holds(t, "as many as may be", l, record)
	}
	for n := 17; n < 20; n++ {
		l, record := many(n)
		refused(t, "more than may be", l, api.ErrLong)
		fails(t, "more than may be", record)
	}
	refused(t, "many more", make([]api.Change, 70000), api.ErrLong)
	same := slices.Repeat([]api.Change{{Kind: api.ChGone, Up: "ab"}}, 17)
	holds(t, "16 times the same", same[:16], "\x00\x00\x00\x10"+strings.Repeat("\x00\x00\x00\x04"+ab, 16))
	refused(t, "17 times the same", same, api.ErrLong)
}

// P17.1: one change that is not valid, at each place among valid ones; of too many changes, that they are too many comes first.
func TestOneThatIsNotValid(t *testing.T) {
	for _, x := range []api.Change{{}, {Kind: 10, Up: "ab"}, {Kind: api.ChGone}, {Kind: api.ChGone, Up: "ab", Slot: 1}, {Kind: api.ChFile, Up: "ab"}, {Kind: api.ChFree, Epoch: high + 1, Serial: 1}} {
		for n := 1; n <= 18; n++ {
			for at := range n {
				l, _ := many(n)
				l[at] = x
				want := api.ErrForm
				if n > 16 {
					want = api.ErrLong
				}
				refused(t, "one that is not valid", l, want)
			}
		}
	}
	refused(t, "all of 16", make([]api.Change, 16), api.ErrForm)
	refused(t, "all of 17", make([]api.Change, 17), api.ErrLong)
}

// P17.2: what is returned is new memory, which the next call does not change.
func TestNewMemory(t *testing.T) {
	l, record := many(16)
	first, _ := rec.Get(record)
	second, _ := rec.Get(record)
	clear(first)
	if !slices.Equal(second, l) {
		t.Errorf("after the first was cleared, the second is %+v", second)
	}
	if third, err := rec.Get(record); !slices.Equal(third, l) || err != api.OK {
		t.Errorf("after the first was cleared, the third is %+v, error %d", third, err)
	}
}
