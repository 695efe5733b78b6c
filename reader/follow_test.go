package reader

import (
	"slices"
	"strconv"
	"testing"

	"strandline/api"
	"strandline/crash"
	"strandline/disk"
	"strandline/scan"
	"strandline/segment"
	"strandline/writer"
)

// follows fails, if a record that layer 19 tells doesn't stand at its place, with its bytes, and the next one's place behind it, or the end; it tells how many there are.
func follows(t *testing.T, what any, epoch uint64, l []api.Sec) int {
	t.Helper()
	r := scan.Scan(epoch, l)
	if want := slowScan(epoch, l); !sameResult(r, want) {
		t.Fatalf("%v: %s, want %s", what, text(r), text(want))
	}
	for i, at := range r.Places {
		rec, behind, ok := From(epoch, l, at)
		next := r.End
		if i+1 < len(r.Places) {
			next = r.Places[i+1]
			if begin(behind) != next {
				t.Fatalf("%v: behind %d comes %d, not %d", what, at, behind, next)
			}
		} else if behind != next {
			t.Fatalf("%v: behind the last one, at %d, comes %d, not the end %d", what, at, behind, next)
		}
		if !ok || !slices.Equal(rec, r.Recs[i]) {
			t.Fatalf("%v: at %d, %t: %d bytes, not %d", what, at, ok, len(rec), len(r.Recs[i]))
		}
	}
	return len(r.Places)
}

// P24.3: of all segments, as they were laid, by their epoch and by others, with fewer sectors, and with more.
func TestScannedStands(t *testing.T) {
	for _, s := range stones(t) {
		told := 0
		for told < len(s.recs) && len(s.recs[told]) <= longest {
			told++
		}
		if n := follows(t, s, s.epoch, s.secs); n != told {
			t.Fatalf("%v: %d records", s, n)
		}
		for n := range sectors {
			follows(t, s, s.epoch, s.secs[:n])
		}
		follows(t, s, s.epoch, append(slices.Clone(s.secs), s.secs...))
		for _, epoch := range epochs() {
			follows(t, s, epoch, s.secs)
		}
	}
}

// P24.3: with one sector another one, torn, or with another byte, and of any bytes.
func TestScannedStandsChanged(t *testing.T) {
	for n, s := range stones(t) {
		for i := range sectors {
			for k, c := range others(s, i) {
				if (n+k)%4 == 0 {
					follows(t, s, s.epoch, with(s.secs, i, c))
				}
			}
			for cut := n % 13; cut < sector; cut += 13 {
				c := s.secs[(i+n)%sectors]
				copy(c[:cut], s.secs[i][:cut])
				follows(t, s, s.epoch, with(s.secs, i, c))
			}
		}
		for at := n % 7; at < all; at += 7 {
			follows(t, s, s.epoch, changed(s.secs, at, 1<<(at%8)))
		}
	}
	numbers := scatter(3000)
	for i := range 1000 {
		follows(t, "any bytes", epochOf(i), anySectors(numbers[i:], epochOf(i)))
	}
}

// P24.3: of fragments in each order.
func TestScannedStandsOrders(t *testing.T) {
	for n := range 1 << 12 {
		var l []part
		for i := range 6 {
			l = append(l, part{1 + n>>(2*i)&3, mixed(n, (n+7*i)%60)})
		}
		follows(t, "any order", 7, byHand(7, 0, l))
	}
}

// P24.3: a record that standing alone tells isn't looked for by scanning: what scanning no more comes to stands all the same.
func TestBehindTornStands(t *testing.T) {
	s := stoneOf(t, 7, anything, 20, 41, 300, 0, 200)
	for lost := range s.recs {
		at := s.places[lost]
		l := changed(s.secs, at+4, 255)
		if n := follows(t, s, 7, l); n != lost {
			t.Fatalf("%d records, not %d", n, lost)
		}
		for i, place := range s.places {
			if i == lost {
				lacks(t, s, 7, l, place)
			} else {
				stands(t, s, 7, l, place, s.recs[i], s.behind[i])
			}
		}
	}
}

// P24.2, P24.3: behind each crash that layer 9 tells, of sectors that wait over others.
func TestScannedStandsCrashes(t *testing.T) {
	s, over := stoneOf(t, 6, rights, 30, 60, 30, 150, 60), stoneOf(t, 5, firsts, filling(60)...)
	for _, old := range [][]api.Sec{make([]api.Sec, sectors), over.secs} {
		for _, from := range []int{0, 2, 5} {
			for _, choice := range crash.All(4) {
				l := slices.Concat(s.secs[:from], crash.Apply(old[from:from+4], s.secs[from:from+4], choice), old[from+4:])
				follows(t, s, 6, l)
			}
		}
	}
}

// written is a disk with a segment that was begun in a file that had other sectors, and records written, one by one; behind each one some crashes are told.
func written(t *testing.T, h api.Header, lengths []int, each func(d *disk.Disk, recs [][]byte, places []int, synced int)) {
	t.Helper()
	d := laid(t, api.File{Name: "a", L: marks("a", 3)}, api.File{Name: "free-1", L: append([]api.Sec{slowSector(heading(1, 9))}, stoneOf(t, 1, rights, filling(60)...).secs...)})
	fine(t, segment.Begin(d, h))
	w := writer.New(d, h, nil, 0)
	var recs [][]byte
	var places []int
	synced := 0
	each(d, recs, places, synced)
	for i, n := range lengths {
		at, e := w.Append(mixed(i, n))
		fine(t, e)
		recs, places = append(recs, mixed(i, n)), append(places, at)
		each(d, recs, places, synced)
		if i%3 == 1 {
			fine(t, w.Sync())
			synced = len(recs)
			each(d, recs, places, synced)
		}
	}
}

// P24.2, P24.3: of what is written to a segment each record is read at the place that was told; behind crashes all that was synced is.
func TestWritten(t *testing.T) {
	for i, lengths := range [][]int{{10, 10, 10, 10}, {300, 20, 300}, {longest, 0, 100}, {most, most, most, most}, {41, 41, 93, 41, 0, 0, 0, 200}, many(20, 10)} {
		h := heading(epochs()[2+i]|2, 1+i)
		written(t, h, lengths, func(d *disk.Disk, recs [][]byte, places []int, synced int) {
			what := "behind " + strconv.Itoa(len(recs)) + " records, " + strconv.Itoa(synced) + " synced"
			for r, at := range places {
				reads(t, what, d, api.Place{Seq: h.Seq, At: at}, recs[r], api.OK)
			}
			againstSlow(t, what, d, h.Seq, append(places, beyond()...)...)
			for k := range 30 {
				c := d.Clone()
				c.Crash(api.Crash{Keep: mixed(k, 3), Torn: k%12 - 1, Cut: 7 * k})
				for r, at := range places[:synced] {
					// A sector that was written over a synced one has all of that one's bytes, also where it is torn.
					reads(t, what+", a crash", c, api.Place{Seq: h.Seq, At: at}, recs[r], api.OK)
				}
				againstSlow(t, what+", a crash", c, h.Seq, places...)
				_, l, e := slowSectors(c, h.Seq)
				fine(t, e)
				follows(t, what+", a crash", h.Epoch, l)
			}
		})
	}
}
