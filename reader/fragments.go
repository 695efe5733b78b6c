package reader

import (
	"iter"

	"strandline/api"
	"strandline/frag"
	"strandline/plan"
	"strandline/span"
)

// body is what the sectors of a segment have by an epoch.
type body struct {
	epoch   uint32 // as much of it as a fragment has
	room    []byte
	stamped []bool // of each sector
}

// fragments yields the fragments that are told one behind the other, each with the place behind it.
func fragments(epoch uint64, l []api.Sec, at int) iter.Seq2[api.Frag, int] {
	return func(yield func(api.Frag, int) bool) {
		room, stamped := plan.Flat(epoch, l)
		b := body{epoch: uint32(epoch), room: room, stamped: stamped}
		for {
			f, behind, told := b.fragment(at)
			if !told || !yield(f, behind) {
				return
			}
			// The first one is looked for at the place itself, whatever room for a head its sector has there.
			at = span.Begin(behind)
		}
	}
}

// fragment tells the fragment at that place, and the place behind it; false, if there is none all of whose sectors are stamped.
func (b body) fragment(at int) (api.Frag, int, bool) {
	if at < 0 || at > api.SegRoom {
		return api.Frag{}, 0, false
	}
	f, size, e := frag.Decode(b.room[at:at+span.Left(at)], b.epoch)
	// Its sum alone isn't trusted: it may go with the bytes 0 that stand for a sector that isn't stamped.
	return f, at + size, e == api.OK && plan.Covered(b.stamped, at, at+size)
}
