package piece

import (
	"iter"
	"strings"

	"posthouse/api"
)

// shared is what all pieces of one record have in common.
type shared struct {
	epoch, seq, parts int
}

// sharedOf is what a piece has in common with the others of its record.
func sharedOf(p api.Piece) shared {
	return shared{p.Epoch, p.Seq, p.Parts}
}

// pieces yields the pieces of a record, in order.
func pieces(record string, s shared) iter.Seq[api.Piece] {
	return func(yield func(api.Piece) bool) {
		for part := range s.parts {
			size := min(room, len(record))
			// A copy: whoever keeps one piece shall not hold the whole record.
			data := strings.Clone(record[:size])
			record = record[size:]
			if !yield(api.Piece{Epoch: s.epoch, Seq: s.seq, Part: part, Parts: s.parts, Data: data}) {
				return
			}
		}
	}
}
