package tear

import (
	"strandline/api"
	"strandline/frag"
	"strandline/plan"
	"strandline/span"
)

// flattened are a segment's sectors, as scanning by an epoch sees them.
type flattened struct {
	epoch   uint32 // as much of an epoch as a fragment has
	body    []byte
	stamped []bool
}

func flat(epoch uint64, now []api.Sec) flattened {
	body, stamped := plan.Flat(epoch, now)
	return flattened{epoch: uint32(epoch), body: body, stamped: stamped}
}

// told is the fragment that scanning tells at a place, if there is one.
func (f flattened) told(at int) (api.Frag, bool) {
	// No fragment crosses a block: what is behind its end is another one's.
	got, size, e := frag.Decode(f.body[at:at+span.Left(at)], f.epoch)
	// A sum may be right by the bytes 0 that stand for a sector that isn't stamped.
	return got, e == api.OK && plan.Covered(f.stamped, at, at+size)
}
