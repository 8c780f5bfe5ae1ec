package ring

import (
	"iter"

	"posthouse/api"
	"posthouse/piece"
)

// find takes those records that follow one another after the journal's beginning, and tells them.
func (r *Ring) find(since int) []string {
	var records []string
journal:
	for first, record := range r.lying() {
		switch {
		case first.Seq != r.next, first.Parts > r.room:
			break journal
		case first.Epoch < since, first.Epoch >= r.epoch:
			break journal
		}
		records = append(records, record)
		since = first.Epoch
		r.take(first.Parts)
	}
	return records
}

// lying yields the records that lie one behind the other from the ring's position on, whatever their numbers and epochs: the first piece and the bytes of each. It goes round for as long as there are any.
func (r *Ring) lying() iter.Seq2[api.Piece, string] {
	return func(yield func(api.Piece, string) bool) {
		pos := r.pos
		for {
			l := r.pieces(pos)
			record, err := piece.Join(l)
			if err != api.OK || !yield(l[0], record) {
				return
			}
			pos = (pos + len(l)) % r.count
		}
	}
}

// pieces is the pieces from a position on, as many as the first one says, up to where none is.
func (r *Ring) pieces(pos int) []api.Piece {
	var l []api.Piece
	for parts := 1; len(l) < parts; parts = l[0].Parts {
		p, err := r.read(pos + len(l))
		if err != api.OK {
			break
		}
		l = append(l, p)
	}
	return l
}

// read is the piece at a position.
func (r *Ring) read(pos int) (api.Piece, api.Errno) {
	s, err := r.disk.Read(r.sector(pos))
	if err != api.OK {
		return api.Piece{}, err
	}
	return piece.Get(s)
}
