package image

import (
	"iter"

	"strandline/api"
	"strandline/cut"
	"strandline/frag"
	"strandline/span"
)

// record is a record's bytes, and where they are laid: the place of its first piece, all its pieces, and the place behind the last one.
type record struct {
	data   []byte
	place  int
	pieces []api.Piece
	behind int
}

// cutFrom tells the record of data, laid from at on; false, if it doesn't fit there.
func cutFrom(at int, data []byte) (record, bool) {
	pieces, behind, fits := cut.Cut(at, len(data))
	return record{data: data, place: span.Begin(at), pieces: pieces, behind: behind}, fits
}

// records yields l's records, one behind the other from the place 0 on, and whether each of them fits; the first one that doesn't is the last one.
func records(l [][]byte) iter.Seq2[record, bool] {
	return func(yield func(record, bool) bool) {
		at := 0
		for _, data := range l {
			r, fits := cutFrom(at, data)
			if !yield(r, fits) || !fits {
				return
			}
			at = r.behind
		}
	}
}

// lay puts the record's fragments at their pieces' places in body.
func (r record) lay(epoch uint64, body []byte) {
	// A fragment has no room for more than an epoch's lowest 32 bits.
	frags, _ := cut.Frags(uint32(epoch), r.place, r.data)
	for i, f := range frags {
		// What is cut is never too long for a fragment, so there is no error.
		b, _ := frag.Encode(f)
		copy(body[r.pieces[i].At:], b)
	}
}
