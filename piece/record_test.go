package piece_test

import (
	"math"
	"math/rand"
	"slices"
	"strings"
	"testing"

	"posthouse/api"
	"posthouse/piece"
)

// cut is the pieces of a record by the document's words.
func cut(record string, epoch, seq int) []api.Piece {
	list := []api.Piece{{Epoch: epoch, Seq: seq}}
	for i := range len(record) {
		last := &list[len(list)-1]
		if len(last.Data) == room {
			list = append(list, api.Piece{Epoch: epoch, Seq: seq, Part: len(list)})
			last = &list[len(list)-1]
		}
		last.Data += record[i : i+1]
	}
	for i := range list {
		list[i].Parts = len(list)
	}
	return list
}

// divides tells whether a record is cut into its pieces, as many as Count says, and comes back from them, and each from its bytes.
func divides(t *testing.T, record string, epoch, seq int) {
	t.Helper()
	want := cut(record, epoch, seq)
	got, err := piece.Cut(record, epoch, seq)
	if !slices.Equal(got, want) || err != api.OK || piece.Count(len(record)) != len(want) {
		t.Fatalf("Cut of %d bytes = %+v, error %d, Count %d, want %+v", len(record), got, err, piece.Count(len(record)), want)
	}
	for i, p := range got {
		holds(t, p)
		bytes, _ := piece.Put(p)
		got[i], _ = piece.Get(bytes)
	}
	if back, err := piece.Join(got); back != record || err != api.OK {
		t.Errorf("Join of the pieces of %d bytes = %q, error %d", len(record), back, err)
	}
	if !slices.Equal(got, want) {
		t.Errorf("Join changed its pieces")
	}
}

// unjoined tells whether pieces are those of no record.
func unjoined(t *testing.T, name string, l []api.Piece) {
	t.Helper()
	if record, err := piece.Join(l); record != "" || err != api.ErrForm {
		t.Errorf("%s: Join(%+v) = %q, error %d", name, l, record, err)
	}
}

// P11.2: the document's example.
func TestExample(t *testing.T) {
	l, err := piece.Cut(strings.Repeat("r", 101), 1, 1)
	if err != api.OK || len(l) != 2 || l[0].Data != strings.Repeat("r", 100) || l[1].Data != "r" {
		t.Errorf("%+v, error %d", l, err)
	}
}

// P11.2, P11.3, P11.4: records of any length, the edges first.
func TestRecords(t *testing.T) {
	for _, n := range []int{0, 1, 99, 100, 101, 199, 200, 201, 6299, 6300, 6301, 6399, 6400} {
		divides(t, filled(n), 1, 1)
		divides(t, strings.Repeat("\x00", n), 5, 6)
		divides(t, strings.Repeat("\xff", n), high, math.MaxInt)
	}
	chance := rand.New(rand.NewSource(1))
	for range 500 {
		divides(t, filled(chance.Intn(longest+1)), 1+chance.Intn(high), 1+chance.Intn(math.MaxInt))
	}
}

// P11.2: how many pieces records have.
func TestCount(t *testing.T) {
	for n, want := range map[int]int{
		math.MinInt: 0, -1 << 32: 0, -101: 0, -100: 0, -1: 0,
		0: 1, 1: 1, 99: 1, 100: 1, 101: 2, 199: 2, 200: 2, 201: 3, 6299: 63, 6300: 63, 6301: 64, 6399: 64, 6400: 64,
		6401: 0, 6500: 0, 1 << 32: 0, 1<<32 + 100: 0, math.MaxInt - 98: 0, math.MaxInt: 0,
	} {
		if got := piece.Count(n); got != want {
			t.Errorf("Count(%d) = %d, want %d", n, got, want)
		}
	}
	for n := 1; n <= longest; n++ {
		if got, want := piece.Count(n), int(math.Ceil(float64(n)/room)); got != want {
			t.Errorf("Count(%d) = %d, want %d", n, got, want)
		}
	}
}

// P11.2: which error Cut answers: that of the length ahead of that of the numbers.
func TestCutErrors(t *testing.T) {
	for _, n := range []int{0, 1, 101, 6400, 6401, 6402, 1 << 20} {
		for _, epoch := range []int{math.MinInt, -1, 0, 1, high, high + 1, high + 2, math.MaxInt} {
			for _, seq := range []int{math.MinInt, -1, 0, 1, high + 1, math.MaxInt} {
				want := api.OK
				switch {
				case n > longest:
					want = api.ErrLong
				case epoch < 1 || epoch > high || seq < 1:
					want = api.ErrRange
				}
				l, err := piece.Cut(strings.Repeat("r", n), epoch, seq)
				if err != want || err != api.OK && len(l) != 0 || err == api.OK && len(l) != piece.Count(n) {
					t.Errorf("Cut of %d bytes with %d, %d: %d pieces, error %d, want %d", n, epoch, seq, len(l), err, want)
				}
			}
		}
	}
}

// sets is pieces of records of one, two, three and 64 pieces.
func sets() [][]api.Piece {
	return [][]api.Piece{cut("", 2, 3), cut("some", 2, 3), cut(filled(101), 2, 3), cut(filled(300), 2, 3), cut(filled(longest), 2, 3)}
}

// P11.3, P11.5: no pieces; pieces of which one is missing, twice there, out of order, or one of another record.
func TestOtherLists(t *testing.T) {
	unjoined(t, "none", nil)
	unjoined(t, "none", []api.Piece{})
	for _, l := range sets() {
		more := l[len(l)-1]
		more.Part++
		unjoined(t, "one more", append(slices.Clone(l), more))
		unjoined(t, "all twice", append(slices.Clone(l), l...))
		for i := range l {
			unjoined(t, "one missing", slices.Delete(slices.Clone(l), i, i+1))
			for k := range len(l) + 1 {
				unjoined(t, "one twice", slices.Insert(slices.Clone(l), k, l[i]))
			}
			for k := range i {
				swapped := slices.Clone(l)
				swapped[i], swapped[k] = swapped[k], swapped[i]
				unjoined(t, "out of order", swapped)
				swapped[i] = swapped[k]
				unjoined(t, "one in place of another", swapped)
			}
		}
		backward := slices.Clone(l)
		slices.Reverse(backward)
		if len(l) > 1 {
			unjoined(t, "backward", backward)
		}
	}
}

// P11.3, P11.5: pieces of which one has another Epoch, Seq, Parts or Part, valid or not.
func TestOtherPieces(t *testing.T) {
	changes := []func(p *api.Piece){
		func(p *api.Piece) { p.Epoch++ },
		func(p *api.Piece) { p.Epoch-- },
		func(p *api.Piece) { p.Seq++ },
		func(p *api.Piece) { p.Seq-- },
		func(p *api.Piece) { p.Epoch, p.Seq = p.Seq, p.Epoch },
		func(p *api.Piece) { p.Epoch += 1 << 32 },
		func(p *api.Piece) { p.Parts++ },
		func(p *api.Piece) { p.Parts-- },
		func(p *api.Piece) { p.Part++ },
		func(p *api.Piece) { p.Part-- },
		func(p *api.Piece) { p.Part, p.Parts = p.Parts, p.Part },
	}
	for _, l := range sets() {
		for i := range l {
			for n, change := range changes {
				// A record of one piece has no other one from which its Epoch or Seq could differ.
				if len(l) == 1 && n < 5 {
					continue
				}
				other := slices.Clone(l)
				change(&other[i])
				unjoined(t, "another piece", other)
			}
		}
	}
}

// P11.3: pieces that are not valid, though they agree.
func TestInvalidPieces(t *testing.T) {
	for _, l := range sets() {
		for _, change := range []func(p *api.Piece){
			func(p *api.Piece) { p.Epoch = 0 },
			func(p *api.Piece) { p.Epoch = -1 },
			func(p *api.Piece) { p.Epoch = high + 1 },
			func(p *api.Piece) { p.Seq = 0 },
			func(p *api.Piece) { p.Seq = math.MinInt },
			func(p *api.Piece) { p.Data += filled(101 - len(p.Data)) },
		} {
			other := slices.Clone(l)
			for i := range other {
				change(&other[i])
			}
			unjoined(t, "not valid", other)
		}
		for i := range l {
			other := slices.Clone(l)
			other[i].Data += filled(101 - len(other[i].Data))
			unjoined(t, "a piece too long", other)
			if i < len(l)-1 {
				other[i].Data = l[i].Data[:99]
				unjoined(t, "a piece too short", other)
			}
			if len(l) > 1 {
				other[i].Data = ""
				unjoined(t, "a piece of nothing", other)
			}
		}
	}
	var many []api.Piece
	for i := range 65 {
		many = append(many, api.Piece{Epoch: 1, Seq: 1, Part: i, Parts: 65, Data: filled(room)})
	}
	unjoined(t, "65 pieces", many)
	unjoined(t, "one piece with no Parts", []api.Piece{{Epoch: 1, Seq: 1}})
	unjoined(t, "zero pieces", make([]api.Piece, 3))
}

// P11.3: pieces that were made otherwise than by Cut are joined, too, if they fit.
func TestOwnPieces(t *testing.T) {
	l := []api.Piece{{Epoch: 9, Seq: 8, Part: 0, Parts: 2, Data: filled(room)}, {Epoch: 9, Seq: 8, Part: 1, Parts: 2, Data: "end"}}
	if record, err := piece.Join(l); record != filled(room)+"end" || err != api.OK {
		t.Errorf("%q, error %d", record, err)
	}
}

// P1: every call ends and none panics, whatever it is given.
func TestNoCallPanics(t *testing.T) {
	numbers := []int{math.MinInt, -1, 0, 1, 2, 64, 65, high, high + 1, math.MaxInt}
	texts := []string{"", "d", filled(room), filled(whole), filled(longest + 1), strings.Repeat("\xff", 1<<20)}
	for _, a := range numbers {
		piece.Count(a)
		for _, b := range numbers {
			for _, s := range texts {
				p := api.Piece{Epoch: a, Seq: b, Part: a, Parts: b, Data: s}
				piece.Put(p)
				piece.Join([]api.Piece{p})
				piece.Join(slices.Repeat([]api.Piece{p}, 64))
				q := api.Piece{Epoch: 1, Seq: 1, Part: a, Parts: b, Data: s}
				if err := piece.Check(q); (err == api.OK) != valid(q) {
					t.Errorf("Check with %d, %d and %d bytes = %d", a, b, len(s), err)
				}
				piece.Join([]api.Piece{q, p})
				piece.Cut(s, a, b)
			}
		}
	}
	for _, s := range texts {
		piece.Get(s)
	}
	unjoined(t, "very many", make([]api.Piece, 1<<16))
}
