package live

import (
	"testing"

	"strandline/api"
)

// P25.1: ErrArg is told wherever it is wrong, whatever else is, ahead of it, at the same segment, or behind it.
func TestArgAheadOfCorrupt(t *testing.T) {
	for n, l := range grownAll() {
		wrongs := misshapes(l)
		for i, other := range astray(l) {
			for k, f := range wrongs {
				if len(l) > 3 && (i+k+n)%7 != 0 {
					continue
				}
				// The one of which ErrArg is told comes last, so that the other one doesn't undo it.
				changed := other.of(l)
				f.do(changed)
				if len(changed[f.seg].Places) == len(changed[f.seg].Recs) && slowRight(changed[f.seg].H) {
					t.Fatalf("%s undoes %s", f.what, other.what)
				}
				checks(t, other.what+", and "+f.what, changed, api.ErrArg)
			}
		}
	}
}

// P25.1: two of the faults of which ErrCorrupt is told, at all places.
func TestTwoAstray(t *testing.T) {
	for n, l := range grownAll() {
		wrongs := astray(l)
		for i, f := range wrongs {
			for k, other := range wrongs {
				if len(l) > 2 && (i+k+n)%5 != 0 {
					continue
				}
				changed := f.of(l)
				other.do(changed)
				if e := againstSlow(t, f.what+", and "+other.what, changed); f.seg != other.seg && e != api.ErrCorrupt {
					t.Fatalf("%s, and %s: error %d of %s", f.what, other.what, e, text(changed))
				}
			}
		}
	}
}

// P25.1: two of the faults of which ErrArg is told.
func TestTwoMisshapen(t *testing.T) {
	for n, l := range grownAll() {
		wrongs := misshapes(l)
		for i, f := range wrongs {
			for k, other := range wrongs {
				if f.seg == other.seg || (i+k+n)%11 != 0 {
					continue
				}
				changed := f.of(l)
				other.do(changed)
				checks(t, f.what+", and "+other.what, changed, api.ErrArg)
			}
		}
	}
}

// P25.1: a fault in segments that are not among those that are asked for plays no part.
func TestFaultOutside(t *testing.T) {
	for _, l := range grownAll() {
		for _, f := range append(misshapes(l), astray(l)...) {
			changed := f.of(l)
			for i := range len(l) + 1 {
				for k := range i + 1 {
					e := againstSlow(t, f.what, changed[k:i])
					if (f.seg < k || f.seg >= i) && e != api.OK {
						t.Fatalf("%s at %d, of the segments from %d to %d: error %d", f.what, f.seg, k, i, e)
					}
				}
			}
		}
	}
}
