package live

import (
	"strandline/api"
	"strandline/header"
)

// wrong tells what is wrong; OK, if nothing is.
type wrong func() api.Errno

// first tells what the first one of l tells that tells something; those behind it aren't asked.
func first(l []wrong) api.Errno {
	for _, w := range l {
		if e := w(); e != api.OK {
			return e
		}
	}
	return api.OK
}

// unless tells e, unless it is right.
func unless(right bool, e api.Errno) api.Errno {
	if right {
		return api.OK
	}
	return e
}

// shaped tells whether a segment's header is right, and each record has a place.
func shaped(_ []Segment, s Segment) bool {
	return header.Right(s.H) && len(s.Places) == len(s.Recs)
}

// numbered tells whether the records' numbers are First, and each one more than the one ahead.
func numbered(_ []Segment, s Segment) bool {
	for i, r := range s.Recs {
		if r.LSN != s.H.First+i {
			return false
		}
	}
	return true
}

// chained tells whether each record's Prev is its chain's head. A chain that there is not has none.
func chained(_ []Segment, s Segment) bool {
	heads := s.H.Heads
	for _, r := range s.Recs {
		if !there(r.Chain) || r.Prev != heads[r.Chain] {
			return false
		}
		heads[r.Chain] = r.LSN
	}
	return true
}

// follows tells whether a segment goes on where the ones ahead end, and the last of them ends cleanly.
func follows(ahead []Segment, s Segment) bool {
	if len(ahead) == 0 {
		return true
	}
	last := ahead[len(ahead)-1]
	return s.H.Seq == last.H.Seq+1 && s.H.Epoch > last.H.Epoch &&
		s.H.First == Next(ahead) && s.H.Heads == Heads(ahead) &&
		last.Kind == api.EndClean
}

// there tells whether there is such a chain.
func there(chain int) bool {
	return 0 <= chain && chain < api.MaxChains
}
