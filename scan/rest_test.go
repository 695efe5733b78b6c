package scan

import (
	"math"
	"testing"

	"strandline/api"
)

// restIs fails, if Rest answers anything else than that.
func restIs(t *testing.T, what string, l []api.Sec, end int, want bool) {
	t.Helper()
	if got := Rest(l, end); got != want {
		t.Fatalf("%s: Rest of %d sectors from %d is %t", what, len(l), end, got)
	}
}

// stampedEmpty are so many sectors that are stamped, and have just bytes 0 as their room.
func stampedEmpty(epoch uint64, count int) []api.Sec {
	var l []api.Sec
	for i := range count {
		l = append(l, stamped(epoch, i, nil))
	}
	return l
}

// P19.2: no sectors, and empty ones: from each place on.
func TestRestEmpty(t *testing.T) {
	for _, end := range ends() {
		restIs(t, "none", nil, end, true)
		for n := range 2 * sectors {
			restIs(t, "empty ones", make([]api.Sec, n), end, true)
		}
	}
}

// P19.2: places written out, of sectors of which the first two, and half of the third one, have bytes.
func TestRestWrittenOut(t *testing.T) {
	half := make([]byte, 26)
	half[25] = 1
	l := make([]api.Sec, sectors)
	l[0], l[1], l[2] = stamped(3, 0, []byte{1}), stamped(3, 1, []byte{51: 1}), stamped(3, 2, half)
	for _, c := range []struct {
		end  int
		want bool
	}{
		{math.MinInt, false}, {-1, false}, {0, false}, {1, false}, {51, false}, {52, false}, {103, false}, {104, false}, {105, false},
		{129, false}, {130, true}, {131, true}, {155, true}, {156, true}, {157, true}, {831, true}, {832, true}, {833, true}, {math.MaxInt, true},
	} {
		restIs(t, "three sectors", l, c.end, c.want)
		restIs(t, "three sectors alone", l[:3], c.end, c.want)
	}
	restIs(t, "two sectors alone", l[:2], 103, false)
	restIs(t, "two sectors alone", l[:2], 104, true)
	restIs(t, "one sector alone", l[:1], 0, false)
	restIs(t, "one sector alone", l[:1], 1, true)
	restIs(t, "one sector alone", l[:1], 52, true)
}

// P19.2: one byte that isn't 0, at each place of each sector, among empty sectors: it counts in the sectors that have no place ahead of the end, its stamp's too, and from the end on in the sector of the end.
func TestRestOneByte(t *testing.T) {
	for i := range sectors {
		for k := range sector {
			l := make([]api.Sec, sectors+1)
			l[i][k] = 1 << (k % 8)
			for _, end := range ends() {
				near := min(max(end, 0), all)
				want := room*i < near && (k < ahead || room*i+k-ahead < near || near >= room*(i+1))
				restIs(t, "one byte", l, end, want)
				if i < 3 || i > 13 {
					restIs(t, "one byte in the last one", l[:i+1], end, want)
					restIs(t, "one byte behind all", l[:i], end, true)
				}
			}
		}
	}
}

// P19.2: each value of a byte counts.
func TestRestEachValue(t *testing.T) {
	for x := range 256 {
		for _, k := range []int{0, ahead - 1, ahead, 30, sector - 1} {
			l := make([]api.Sec, sectors)
			l[5][k] = byte(x)
			restIs(t, "a sector behind", l, 260, x == 0)
			restIs(t, "a sector in which the end lies", l, 261, x == 0 || k <= ahead)
			restIs(t, "a sector ahead", l, 312, true)
		}
	}
}

// P19.2: stamped sectors all of whose room is 0: those that have no place ahead of the end aren't empty; of the one in which the end lies the stamp plays no part.
func TestRestStamped(t *testing.T) {
	for _, epoch := range epochs() {
		for n := range sectors + 3 {
			l := stampedEmpty(epoch, n)
			// By the epoch 0 the first of them is an empty one.
			last := min(n, sectors) - 1
			if epoch == 0 && last == 0 {
				last = -1
			}
			for _, end := range ends() {
				restIs(t, "stamped ones", l, end, max(end, 0) > room*last)
			}
		}
	}
}

// P19.2: one byte that isn't 0 at each place of the room of stamped sectors.
func TestRestStampedOneByte(t *testing.T) {
	for at := range all {
		l := stampedEmpty(3, sectors)
		l[at/room][ahead+at%room] = 7
		for _, end := range ends() {
			// The last sector is stamped, so the end must lie behind its beginning.
			restIs(t, "one byte in stamped ones", l, end, end > max(at, room*(sectors-1)))
		}
		l = l[:at/room+1]
		for _, end := range ends() {
			restIs(t, "one byte in the last one", l, end, end > at)
		}
	}
}

// P19.2: of all segments, from each place on, with fewer sectors too, and with any that are not stamped.
func TestRestOfSegments(t *testing.T) {
	for i, s := range segments(t) {
		l := append(s.secs, make([]api.Sec, 2)...)
		if i%5 == 0 {
			l[i%sectors] = api.Sec(mixed(i, sector))
		}
		if i%3 == 0 {
			l = l[:i%sectors]
		}
		for _, end := range ends() {
			restIs(t, s.what(), l, end, slowRest(l, end))
		}
	}
	for _, s := range everyLength(t) {
		for _, end := range []int{0, 1, s.end() - room, s.end() - 2, s.end() - 1, s.end(), s.end() + 1, s.end() + room} {
			restIs(t, s.what(), s.secs, end, slowRest(s.secs, end))
		}
		restIs(t, s.what(), s.secs, s.end(), true)
	}
}

// P19.2: a scan ends cleanly just if there is no rest behind what it told.
func TestRestIsClean(t *testing.T) {
	for i, s := range segments(t) {
		for k := range sectors {
			for _, c := range []api.Sec{{}, {ahead - 1: 1}, {ahead: 1}, stamped(s.epoch, k, nil), stamped(s.epoch+1, k, s.secs[k][ahead:]), api.Sec(mixed(i, sector))} {
				l := with(s.secs, k, c)
				got := Scan(s.epoch, l)
				if clears := Rest(l, got.End); clears != (got.Kind == clean) || clears == (got.Kind == torn) {
					t.Fatalf("%s: %s, and Rest is %t", s.what(), text(got), clears)
				}
			}
		}
	}
}

// P19.2: of all segments, with one byte of each place of room another one: from that place on, from the next one, and from the ends of sectors and segments.
func TestRestOfSegmentsOneByte(t *testing.T) {
	for _, s := range segments(t) {
		for at := range all {
			c := s.secs[at/room]
			c[ahead+at%room] ^= 1 << (at % 8)
			l := with(s.secs, at/room, c)
			for _, end := range []int{0, at, at + 1, at - at%room, at - at%room + room, s.end(), all} {
				restIs(t, s.what()+", one byte another one", l, end, slowRest(l, end))
			}
		}
	}
}
