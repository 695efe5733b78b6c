package scan

import (
	"testing"

	"strandline/api"
	"strandline/image"
	"strandline/plan"
)

// P19.3: what layer 17 lays of records that a joiner tells is scanned, cleanly: all records, at their places, up to the end of what was laid.
func TestLaid(t *testing.T) {
	for _, s := range append(segments(t), everyLength(t)...) {
		if s.short() < len(s.recs) {
			continue
		}
		l, ok := image.Sectors(s.epoch, s.recs)
		_, end, _ := image.Body(s.epoch, s.recs)
		places, _ := image.Places(s.recs)
		if !ok || end != s.end() {
			t.Fatalf("%s: laid up to %d, %t", s.what(), end, ok)
		}
		is(t, s.what()+", as laid", s.epoch, l, Result{Recs: s.recs, Places: places, End: end, Kind: clean})
	}
}

// P19.3: records that are laid one behind the other are scanned, cleanly, behind each of them; also if all sectors are stamped ahead of the end alone.
func TestLaidOneByOne(t *testing.T) {
	for _, s := range segments(t) {
		body, at := []byte(nil), 0
		for n := range s.short() {
			next, behind, ok := image.Add(s.epoch, body, at, s.recs[n])
			if !ok {
				t.Fatalf("%s: no room for the record %d", s.what(), n)
			}
			body, at = next, behind
			is(t, s.what()+", some of them", s.epoch, plan.Whole(s.epoch, body, at), s.told(n+1, clean))
			_, l := plan.Write(s.epoch, body, 0, at)
			is(t, s.what()+", with no empty sectors", s.epoch, l, s.told(n+1, clean))
		}
	}
}

// P19.3: what was laid behind records is scanned with them, by each epoch.
func TestLaidEpochs(t *testing.T) {
	for _, epoch := range append(epochs(), 1<<62, 1<<40+7, 77) {
		for k := range looks {
			for _, lengths := range [][]int{{}, {0}, {100, 200}, {longest, 30}, many(64, 0), many(4, most)} {
				recs := looking(epoch, k, 0, lengths...)
				l, ok := image.Sectors(epoch, recs)
				if !ok {
					t.Fatalf("no room for the lengths %v", lengths)
				}
				s := lay(t, epoch, recs)
				is(t, s.what(), epoch, l, s.told(len(recs), clean))
				is(t, s.what()+", by another epoch", epoch+1, l, Result{Kind: kindOf(len(recs) == 0)})
			}
		}
	}
}

// kindOf is how a scan ends of which that tells whether it ends cleanly.
func kindOf(cleanly bool) int {
	if cleanly {
		return api.EndClean
	}
	return api.EndTorn
}
