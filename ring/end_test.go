package ring_test

import (
	"math"
	"math/rand"
	"slices"
	"strconv"
	"testing"

	"posthouse/api"
	"posthouse/disk"
	"posthouse/piece"
)

// around is a journal whose second record, of three pieces, goes over the region's end.
func around() place {
	return place{3, 8, 5, 10, 3, 7}
}

// three is the records that lie there; the journal has two more positions.
func three() []string {
	return []string{"first", text("second", 250), "third"}
}

// laidAround is a disk with these records.
func laidAround(t *testing.T) *disk.Disk {
	t.Helper()
	d := newDisk(t, 14)
	around().layAll(t, d, 4, three()...)
	around().finds(t, "nothing changed", d, three()...)
	return d
}

// flipped is bytes of which one is another one.
func flipped(s string, i int, bits byte) string {
	bytes := []byte(s)
	bytes[i] ^= bits
	return string(bytes)
}

// P12.1: a sector that is no valid piece ends the journal, wherever it is.
func TestNoPiece(t *testing.T) {
	p := around()
	for pos, end := range []int{0, 1, 1, 1, 2} {
		d := laidAround(t)
		whole, _ := d.Read(p.sector(p.pos + pos))
		sectors := []string{"", "\x01", "\x00" + whole[:127], whole[1:] + "\x01", whole[:64], text("none", 128)}
		for i := range whole {
			sectors = append(sectors, flipped(whole, i, 1), flipped(whole, i, 0x80))
		}
		for i, sector := range sectors {
			if err := d.Write(p.sector(p.pos+pos), sector); err != api.OK {
				t.Fatal(err)
			}
			p.finds(t, "no piece "+strconv.Itoa(i)+" at "+strconv.Itoa(pos), d, three()[:end]...)
		}
		d.Write(p.sector(p.pos+pos), whole)
		p.finds(t, "the right piece again", d, three()...)
	}
}

// P12.1: a piece of another record ends the journal: one with another number, epoch, part or number of parts.
func TestOtherPieces(t *testing.T) {
	p := around()
	changes := []func(l []api.Piece, i int){
		func(l []api.Piece, i int) { l[i].Seq++ },
		func(l []api.Piece, i int) { l[i].Seq-- },
		func(l []api.Piece, i int) { l[i].Epoch++ },
		func(l []api.Piece, i int) { l[i].Epoch-- },
		func(l []api.Piece, i int) { l[i].Epoch, l[i].Seq = l[i].Seq, l[i].Epoch },
		func(l []api.Piece, i int) { l[i].Parts++; l[i].Data = text("other", data) },
		func(l []api.Piece, i int) { l[i].Parts = i + 1; l[i].Data = text("other", data) },
		func(l []api.Piece, i int) { l[i].Part = 2 - l[i].Part; l[i].Data = text("other", data) },
		func(l []api.Piece, i int) { l[i].Part, l[i].Parts = 0, 1 },
		func(l []api.Piece, i int) { l[i].Parts = 64; l[i].Data = text("other", data) },
	}
	for n, change := range changes {
		for i := range 3 {
			d := laidAround(t)
			l := pieces(t, three()[1], 4, 11)
			old := l[i]
			change(l, i)
			// With other data alone it is a piece of that record yet.
			if l[i].Part == old.Part && l[i].Parts == old.Parts && l[i].Seq == old.Seq && l[i].Epoch == old.Epoch {
				continue
			}
			p.lay(t, d, p.pos+1, l...)
			want := three()[:1]
			// The first piece alone may be a record of its own.
			if i == 0 && l[0].Parts == 1 && l[0].Seq == 11 && l[0].Epoch == 4 {
				want = append(want, l[0].Data)
			}
			p.finds(t, "change "+strconv.Itoa(n)+" of piece "+strconv.Itoa(i), d, want...)
		}
	}
}

// P12.1: pieces of a record out of order, one missing, one twice, and none but some.
func TestPiecesOutOfOrder(t *testing.T) {
	p := around()
	whole := pieces(t, three()[1], 4, 11)
	for _, order := range [][]int{{0, 2, 1}, {1, 0, 2}, {1, 2, 0}, {2, 0, 1}, {2, 1, 0}, {0, 1}, {0, 2}, {1, 2}, {0}, {1}, {2}, {0, 0, 1, 2}, {0, 1, 1, 2}, {0, 0, 0}, {0, 1, 0}, {1, 1, 1}, {2, 2, 2}, {0, 0, 2}, {0, 1, 1}, {0, 2, 2}} {
		var l []api.Piece
		for _, i := range order {
			l = append(l, whole[i])
		}
		d := laidAround(t)
		p.lay(t, d, p.pos+1, append(l, pieces(t, "third", 4, 12)...)...)
		p.finds(t, "out of order", d, "first")
	}
	d := laidAround(t)
	p.lay(t, d, p.pos, append(pieces(t, "first", 4, 10), pieces(t, "first", 4, 10)...)...)
	p.finds(t, "a record twice", d, "first")
}

// numbers yields all lists of three numbers from low to high.
func numbers(low, high int) (l [][3]int) {
	for a := low; a <= high; a++ {
		for b := low; b <= high; b++ {
			for c := low; c <= high; c++ {
				l = append(l, [3]int{a, b, c})
			}
		}
	}
	return l
}

// P12.1: records with the next number, one below and one above.
func TestNumbers(t *testing.T) {
	for _, seqs := range numbers(9, 13) {
		d, p, pos, found := newDisk(t, 14), around(), 5, 0
		for i, seq := range seqs {
			pos = p.lay(t, d, pos, pieces(t, three()[i], 4, seq)...)
		}
		for found < 3 && seqs[found] == 10+found {
			found++
		}
		p.finds(t, "numbers", d, three()[:found]...)
	}
}

// P12.1: epochs of records: the first one's is at least since, each further one's at least that of the one before it, and all are below the journal's.
func TestEpochs(t *testing.T) {
	count := [4]int{}
	for _, epochs := range numbers(1, 6) {
		d, pos := newDisk(t, 14), 5
		for i, epoch := range epochs {
			pos = around().lay(t, d, pos, pieces(t, three()[i], epoch, 10+i)...)
		}
		for epoch := 1; epoch <= 7; epoch++ {
			for since := 1; since <= epoch; since++ {
				found, least := 0, since
				for found < 3 && least <= epochs[found] && epochs[found] < epoch {
					least = epochs[found]
					found++
				}
				p := place{3, 8, 5, 10, since, epoch}
				p.finds(t, "epochs", d, three()[:found]...)
				count[found]++
			}
		}
	}
	if slices.Min(count[:]) < 100 {
		t.Errorf("found %v", count)
	}
}

// P12.1: the last epochs and numbers that a piece may have.
func TestLastNumbers(t *testing.T) {
	for _, c := range []struct {
		epochs []int
		found  int
	}{{[]int{high - 1, high - 1}, 2}, {[]int{high - 2, high - 1}, 2}, {[]int{high - 1, high - 2}, 1}, {[]int{high - 1, high}, 1}, {[]int{high, high}, 0}, {[]int{1, high - 1}, 2}} {
		d, p := newDisk(t, 5), place{0, 5, 4, math.MaxInt - 1, 1, high}
		p.lay(t, d, 4, pieces(t, "a", c.epochs[0], math.MaxInt-1)...)
		p.lay(t, d, 0, pieces(t, text("b", 101), c.epochs[1], math.MaxInt)...)
		// Behind the last number there is none.
		p.lay(t, d, 2, pieces(t, "c", high-1, 1)...)
		if _, l, err := p.open(d); err != api.OK || !slices.Equal(l, []string{"a", text("b", 101)}[:c.found]) {
			t.Errorf("epochs %v: %s, error %d", c.epochs, listed(l), err)
		}
	}
}

// filling is records that have so many pieces together, the first of them one.
func filling(count int) []string {
	records := []string{"a"}
	for rest := count - 1; rest > 0; rest -= 64 {
		records = append(records, text(strconv.Itoa(rest), data*min(rest, 64)))
	}
	return records
}

// P12.1, P12.5: records that have just as many pieces as there are positions.
func TestFullRegion(t *testing.T) {
	for _, count := range []int{1, 2, 3, 4, 9, 63, 64, 65, 66, 128, 129, 130, 512} {
		for _, pos := range []int{0, count / 2, count - 1} {
			d, p := newDisk(t, count+1), place{0, count, pos, 10, 3, 7}
			p.layAll(t, d, 4, filling(count)...)
			r := p.finds(t, "full", d, filling(count)...)
			if r.Room() != 0 {
				t.Fatalf("Room %d of %d", r.Room(), count)
			}
			keeps(t, "full", r, "", api.ErrFull)
		}
	}
}

// P12.1: records of one piece more than there are positions: the last one lies behind the region, or where the first one was.
func TestOnePieceMore(t *testing.T) {
	for count := 1; count < 64; count++ {
		d, p := newDisk(t, 64), place{0, count, 0, 10, 3, 7}
		l := pieces(t, text("a", data*(count+1)), 4, 10)
		wide := place{0, 64, 0, 10, 3, 7}
		wide.lay(t, d, 0, l...)
		wide.finds(t, "in a greater region", d, text("a", data*(count+1)))
		p.finds(t, "one piece more", d)
		p.lay(t, d, 0, l...)
		p.finds(t, "one piece more, round the region", d)
	}
	d, p := newDisk(t, 5), place{0, 3, 0, 10, 3, 7}
	place{0, 5, 0, 10, 3, 7}.layAll(t, d, 4, text("a", 200), text("b", 200), "c")
	p.finds(t, "two records of two pieces in three positions", d, text("a", 200))
}

// P12.1: an old record that lies where the next one would be is not taken: its number or its epoch is another one.
func TestOldRecords(t *testing.T) {
	d, p := newDisk(t, 4), place{0, 4, 0, 1, 1, 2}
	p.layAll(t, d, 1, "a", "b", "c", "d")
	p.finds(t, "one round", d, "a", "b", "c", "d")
	p.lay(t, d, 0, append(pieces(t, "e", 1, 5), pieces(t, "f", 1, 6)...)...)
	next := place{0, 4, 0, 5, 1, 2}
	next.finds(t, "the next round", d, "e", "f")
	next = place{0, 4, 2, 3, 1, 2}
	next.finds(t, "over the region's end", d, "c", "d", "e", "f")
	// A record that was appended in an older epoch with the number that is the next one now.
	next = place{0, 4, 2, 3, 2, 3}
	next.finds(t, "since a later epoch", d)
	p.lay(t, d, 2, pieces(t, "g", 2, 3)...)
	next.finds(t, "since a later epoch", d, "g")
}

// wanted is the records of a journal by the document's words: how many sectors are one record's is tried out.
func (p place) wanted(d *disk.Disk) (records []string) {
	least, pos := p.since, p.pos
	for {
		record, l := p.lies(d, pos)
		if len(l) == 0 || l[0].Seq != p.seq+len(records) || l[0].Epoch < least || l[0].Epoch >= p.epoch || partsOf(records)+len(l) > p.count {
			return records
		}
		records, least, pos = append(records, record), l[0].Epoch, pos+len(l)
	}
}

// lies is the record that lies at a position, and its pieces, if there is one.
func (p place) lies(d *disk.Disk, pos int) (string, []api.Piece) {
	var l []api.Piece
	for range 64 {
		s, _ := d.Read(p.sector(pos + len(l)))
		one, err := piece.Get(s)
		if err != api.OK {
			break
		}
		l = append(l, one)
		if record, err := piece.Join(l); err == api.OK {
			return record, l
		}
	}
	return "", nil
}

// P12.1: sectors of any pieces in any order.
func TestManyLayouts(t *testing.T) {
	chance := rand.New(rand.NewSource(1))
	count := [5]int{}
	for n := range 3000 {
		d := newDisk(t, 12)
		p := place{chance.Intn(3), 1 + chance.Intn(10), 0, 1 + chance.Intn(3), 1, 2 + chance.Intn(7)}
		p.pos, p.since = chance.Intn(p.count), 1+chance.Intn(p.epoch)
		pos, seq, epoch := p.pos, p.seq, p.since
		for range 1 + chance.Intn(8) {
			l := pieces(t, text(strconv.Itoa(n), chance.Intn(240)), epoch, seq)
			if chance.Intn(8) == 0 {
				i, k := chance.Intn(len(l)), chance.Intn(len(l))
				l[i] = l[k]
			}
			pos, seq, epoch = p.lay(t, d, pos, l...), seq+1, epoch+chance.Intn(2)
			if chance.Intn(8) == 0 {
				seq, epoch = max(1, seq-1+chance.Intn(3)), max(1, epoch-1+chance.Intn(3))
			}
		}
		want := p.wanted(d)
		p.finds(t, "any layout", d, want...)
		count[min(4, len(want))]++
	}
	if slices.Min(count[:]) < 50 {
		t.Errorf("found %v", count)
	}
}
