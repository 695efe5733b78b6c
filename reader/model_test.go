package reader

import (
	"math"
	"slices"
	"strconv"
	"testing"

	"strandline/api"
	"strandline/disk"
	"strandline/segment"
	"strandline/writer"
)

// dice are numbers that come one behind the other, always the same ones.
type dice uint64

// roll tells a number from 0 to n - 1.
func (r *dice) roll(n int) int {
	*r = *r*6364136223846793005 + 1442695040888963407
	return int(uint64(*r)>>33) % n
}

// pick tells one of l.
func pick[T any](r *dice, l ...T) T {
	return l[r.roll(len(l))]
}

// bytes tells so many that look like any.
func (r *dice) bytes(n int) []byte {
	var l []byte
	for range n {
		l = append(l, byte(r.roll(256)))
	}
	return l
}

// seq tells a number, mostly one of a file.
func (r *dice) seq() int {
	return pick(r, 1, 1, 1, 2, 2, 3, 4, 0, -1, mostLSN, mostLSN+1)
}

// header tells one that is right.
func (r *dice) header() api.Header {
	return heading(pick[uint64](r, 1, 2, 3, 1<<32+1, 1<<32+2, 1<<63, math.MaxUint64), pick(r, 1, 1, 2, 3))
}

// crash tells a crash.
func (r *dice) crash() api.Crash {
	return api.Crash{Keep: r.bytes(r.roll(10)), Torn: r.roll(40) - 3, Cut: pick(r, math.MinInt, -1, 0, 1, 13, 41, 64, 65, math.MaxInt)}
}

// row is a disk, a writer of one of its segments, and the places that it told.
type row struct {
	t      *testing.T
	d      *disk.Disk
	w      *writer.Writer
	places []int
}

// change does something with the disk: it begins a segment, writes to it, or does a call of the disk's own.
func (r *row) change(n *dice) {
	name := pick(n, "wal-1", "wal-1", "wal-2", "wal-3", "free-1", "a")
	switch n.roll(12) {
	case 0:
		h := n.header()
		if segment.Begin(r.d, h) == api.OK || n.roll(2) == 0 {
			r.w = writer.New(r.d, h, nil, 0)
		}
	case 1:
		var l []api.Sec
		for i := range n.roll(17) {
			l = append(l, stamped(uint64(1+n.roll(3)), i, slices.Repeat(fragment(pick(n, 1, 2, 3, 4), uint64(1+n.roll(3)), n.bytes(n.roll(20))), 3)))
		}
		segment.Prepare(r.d, name, n.header(), l)
	case 2:
		r.d.Make(name, pick(n, 1, 16, whole, whole, 18))
	case 3:
		r.d.Rename(name, pick(n, "wal-1", "wal-2", "free-1"))
	case 4:
		r.d.Remove(pick(n, "wal-3", "a", "free-1", name))
	case 5:
		r.d.Sync(name)
	case 6:
		r.d.Write(name, n.roll(18), []api.Sec{stamped(uint64(1+n.roll(3)), n.roll(sectors), n.bytes(n.roll(room)))})
	case 7:
		if n.roll(3) == 0 {
			r.d.Fail(n.roll(9))
		}
		r.w.Sync()
	case 8:
		if r.d.Down() || n.roll(3) == 0 {
			r.d.Crash(n.crash())
		}
	default:
		if at, e := r.w.Append(n.bytes(pick(n, 0, n.roll(20), n.roll(60), n.roll(60), n.roll(200), n.roll(512)))); e == api.OK {
			r.places = append(r.places, at)
		}
	}
}

// P24.1 to P24.3: long rows of changes of a disk, of which some segments are begun, written and crashed: each answer against the slow one, at the places that were told, at any, and beyond.
func TestRowsAgainstSlow(t *testing.T) {
	stood := 0
	for turn := range 100 {
		n := dice(turn)
		r := &row{t: t, d: disk.New(pick(&n, 17, 60, 90))}
		r.w = writer.New(r.d, n.header(), nil, 0)
		for call := range 150 {
			what := "turn " + strconv.Itoa(turn) + ", call " + strconv.Itoa(call)
			r.change(&n)
			seq := n.seq()
			at := []int{0, n.roll(all + 1), pick(&n, beyond()...)}
			for range min(3, len(r.places)) {
				at = append(at, pick(&n, r.places...))
			}
			againstSlow(t, what, r.d, seq, at...)
			if epoch, l, e := slowSectors(r.d, seq); e == api.OK {
				stood += follows(t, what, epoch, l)
			}
		}
	}
	if stood < 1000 {
		t.Errorf("just %d records stood", stood)
	}
}

// P24.1, P24.3: segments of records of any lengths and bytes, some of them changed, at any places.
func TestAnySegments(t *testing.T) {
	for turn := range 1500 {
		n := dice(turn)
		var recs [][]byte
		upTo := pick(&n, 3, 20, 60, 200, longest)
		for at := 0; len(recs) < 40; {
			data := n.bytes(n.roll(upTo + 1))
			_, behind, ok := pieces(at, len(data))
			if !ok {
				break
			}
			recs, at = append(recs, data), behind
		}
		s := lay(t, epochOf(turn), recs)
		l := slices.Clone(s.secs)
		for range n.roll(4) {
			switch i := n.roll(sectors); n.roll(4) {
			case 0:
				l[i] = api.Sec{}
			case 1:
				l[i] = s.secs[n.roll(sectors)]
			case 2:
				l[i][n.roll(sector)] ^= byte(1 + n.roll(255))
			default:
				l = l[:n.roll(len(l)+1)]
				l = append(l, make([]api.Sec, sectors-len(l))...)
			}
		}
		follows(t, s, s.epoch, l)
		for _, at := range s.places {
			asRead(t, s, s.epoch, l, at)
		}
		for range 40 {
			asRead(t, s, s.epoch, l, n.roll(all+1))
		}
	}
}
