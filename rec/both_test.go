package rec_test

import (
	"math/rand"
	"slices"
	"strings"
	"testing"

	"posthouse/api"
	"posthouse/rec"
)

// anyChange is a change whose fields are some of those that edges have: valid ones that its kind has, if it is tame, and now and then others, if not.
func anyChange(chance *rand.Rand, list []field, tame bool) api.Change {
	x := api.Change{Kind: 1 + chance.Intn(kinds)}
	if !tame && chance.Intn(20) == 0 {
		x.Kind = edges()[chance.Intn(len(edges()))]
	}
	for _, f := range list {
		if !f.has(x.Kind) && (tame || chance.Intn(50) > 0) {
			continue
		}
		v := f.values[chance.Intn(len(f.values))]
		for len(v.bytes) > 2000 || !v.valid && (tame || chance.Intn(30) > 0) {
			v = f.values[chance.Intn(len(f.values))]
		}
		v.put(&x)
	}
	return x
}

// P17.1, P17.2, P17.4: any valid changes are recovered from their record, and any others have none.
func TestWrittenIsReadBack(t *testing.T) {
	chance, list := rand.New(rand.NewSource(1)), fields()
	count := [2]int{}
	for range 10000 {
		l := make([]api.Change, chance.Intn(17))
		tame := chance.Intn(2) == 0
		for i := range l {
			l[i] = anyChange(chance, list, tame)
			if got := rec.Check(l[i]); (got == api.OK) != valid(l[i]) || got != api.OK && got != api.ErrForm {
				t.Fatalf("Check(%+v) = %d", l[i], got)
			}
		}
		if slices.ContainsFunc(l, func(x api.Change) bool { return !valid(x) }) {
			refused(t, "any changes", l, api.ErrForm)
			count[0]++
			continue
		}
		holds(t, "any changes", l, recordOf(l))
		count[1]++
		if t.Failed() {
			t.FailNow()
		}
	}
	if count[0] < 1000 || count[1] < 1000 {
		t.Errorf("%d lists with one that is not valid, and %d without, were tried", count[0], count[1])
	}
}

// readOrNot tells whether bytes were read, and whether they had to be.
func readOrNot(t *testing.T, record string) bool {
	t.Helper()
	want, is := changesOf(record)
	if !is {
		fails(t, "any bytes", record)
		return false
	}
	holds(t, "any bytes", want, record)
	for _, x := range want {
		if err := rec.Check(x); err != api.OK {
			t.Errorf("Check(%+v) = %d, of bytes %x", x, err, record)
		}
	}
	return true
}

// P17.2, P17.4: any bytes are the record of the changes that are read, or are refused.
func TestReadIsWrittenAgain(t *testing.T) {
	chance, read := rand.New(rand.NewSource(2)), 0
	zero := "\x00\x00\x00\x00"
	pieces := []string{zero, one, one, "\x00\x00\x00\x02", "\x00\x00\x00\x04", "\x00\x00\x00\x05", "\x00\x00\x00\x07", "\x00\x00\x00\x08", "\x00\x00\x00\x09", ab, ab, ab, f, wide, wide, no, slot, file, epoch, "\xff\xff\xff\xff", "\x00"}
	for range 300000 {
		record := ""
		some := pieces[:[]int{2, 8, len(pieces)}[chance.Intn(3)]]
		for range chance.Intn(9) {
			record += some[chance.Intn(len(some))]
		}
		if chance.Intn(2) == 0 {
			record = one + bytes32(1+chance.Intn(kinds)) + record
		}
		if readOrNot(t, record) {
			read++
		}
	}
	if read < 1000 {
		t.Errorf("only %d records were tried", read)
	}
}

// P17.2, P17.4: records in which a byte is another, or some are missing, or some are too many.
func TestRecordsThatAreSpoilt(t *testing.T) {
	chance, list, read := rand.New(rand.NewSource(3)), fields(), [2]int{}
	for range 50000 {
		l := make([]api.Change, chance.Intn(5))
		for i := range l {
			l[i] = anyChange(chance, list, true)
		}
		bytes := []byte(recordOf(l))
		at := chance.Intn(len(bytes) + 1)
		switch {
		case at < len(bytes) && chance.Intn(2) == 0:
			bytes[at] ^= 1 << chance.Intn(8)
		case chance.Intn(2) == 0:
			bytes = append(bytes[:at:at], bytes[min(len(bytes), at+1+chance.Intn(8)):]...)
		default:
			bytes = append(append(bytes[:at:at], one[chance.Intn(4):]...), bytes[at:]...)
		}
		if readOrNot(t, string(bytes)) {
			read[1]++
		} else {
			read[0]++
		}
	}
	if read[0] < 1000 || read[1] < 1000 {
		t.Errorf("%d that are no records were tried, and %d that are", read[0], read[1])
	}
}

// P17.2: each byte of a record of all kinds as each other byte.
func TestEachByteAsAnother(t *testing.T) {
	_, record := many(9)
	for at := range len(record) {
		for b := range 256 {
			readOrNot(t, record[:at]+string([]byte{byte(b)})+record[at+1:])
		}
	}
}

// P1: every call ends and none panics, whatever it is given.
func TestNoCallPanics(t *testing.T) {
	texts := []string{"", "\x00", "\xff\xff\xff\xff", one, one + one, strings.Repeat("\x00", 1<<20+1), strings.Repeat("\xff", 3000), strings.Repeat(one, 3000)}
	for _, s := range texts {
		rec.Get(s)
		for _, n := range edges() {
			a := api.Attr{Type: n, Mode: n, Nlink: n, Uid: n, Gid: n, Size: n, Id: n, Gen: n, Change: n, Time: n}
			for _, kind := range append(edges(), 4, 5, 6, 9, 10) {
				x := api.Change{Kind: kind, Epoch: n, Serial: n, Up: s, Name: s, Child: s, Attr: a, No: n, Slot: n}
				if err := rec.Check(x); (err == api.OK) != valid(x) {
					t.Errorf("Check(%d with %d bytes and %d) = %d", kind, len(s), n, err)
				}
				rec.Put([]api.Change{x})
			}
			rec.Changes(api.Cache{Helds: []api.Held{{Epoch: n, Serial: n, Up: s}}, Files: []api.Cached{{Up: s, Attr: a}}, Names: []api.Known{{Dir: s, Name: s, Up: s}}, Blocks: []api.Placed{{Up: s, No: n, Slot: n}}})
		}
	}
}
