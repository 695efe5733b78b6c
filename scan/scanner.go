package scan

import (
	"strandline/api"
	"strandline/frag"
	"strandline/join"
	"strandline/plan"
	"strandline/span"
)

// scanner goes on from fragment to fragment of a body, and keeps what is told so far.
type scanner struct {
	epoch   uint32 // as much of an epoch as a fragment has
	body    []byte
	stamped []bool // of each of the body's sectors
	joiner  *join.Joiner
	at      int // the place behind the last fragment that was taken
	first   int // the place of the first fragment of the record that the joiner has
	told    Result
}

func newScanner(epoch uint64, l []api.Sec) *scanner {
	body, stamped := plan.Flat(epoch, l)
	return &scanner{epoch: uint32(epoch), body: body, stamped: stamped, joiner: join.New()}
}

// goOn takes step after step, till one tells that there is none further.
func goOn(step func() bool) {
	for step() {
	}
}

// step takes the next fragment, if there is one that the joiner takes.
func (s *scanner) step() bool {
	at := span.Begin(s.at)
	f, size, ok := s.fragment(at)
	if !ok {
		return false
	}
	if s.joiner.Idle() {
		s.first = at
	}
	rec, ends, e := s.joiner.Feed(f)
	if e != api.OK {
		return false
	}
	s.at = at + size
	if ends {
		s.tell(rec)
	}
	return true
}

// fragment tells the fragment at that place, and how many bytes it has; false, if there is none all of whose sectors are stamped.
func (s *scanner) fragment(at int) (api.Frag, int, bool) {
	if at == api.SegRoom || !s.has(at, api.Head) {
		return api.Frag{}, 0, false
	}
	f, size, e := frag.Decode(s.body[at:at+span.Left(at)], s.epoch)
	// Its sum alone isn't trusted: it may go with the bytes 0 that stand for a sector that isn't stamped.
	return f, size, e == api.OK && s.has(at, size)
}

// has tells whether all sectors of so many bytes from that place on are stamped.
func (s *scanner) has(at, size int) bool {
	return plan.Covered(s.stamped, at, at+size)
}

// tell keeps a record that ended at the place that was reached.
func (s *scanner) tell(rec []byte) {
	s.told.Recs = append(s.told.Recs, rec)
	s.told.Places = append(s.told.Places, s.first)
	s.told.End = s.at
}
