package live

import (
	"fmt"
	"testing"

	"strandline/api"
	"strandline/segment"
)

// meddle does something with a log's disk that no log does.
func (r *dice) meddle(b *book) {
	live := func() string { return slowLive(pick(r, b.l...).H.Seq + r.roll(4)/3) }
	switch r.roll(10) {
	case 0:
		b.d.Rename(live(), pick(r, live(), "free-1", "a"))
	case 1:
		b.d.Remove(live())
	case 2:
		b.d.Make(live(), pick(r, 1, whole, 18))
	case 3:
		b.d.Write(live(), r.roll(18), []api.Sec{{}})
	case 4:
		b.d.Write(live(), 0, []api.Sec{slowSector(pick(r, b.l...).H)})
	case 5:
		h := pick(r, b.l...).H
		h.Seq, h.Epoch = h.Seq+r.roll(3), h.Epoch+uint64(r.roll(3))
		segment.Prepare(b.d, live(), h, nil)
	case 6:
		f := file(b.t, pick(r, b.l...))
		b.d.Write(live(), 0, f.L)
	case 7:
		b.w.Append(pick(r, noRecords()...))
	case 8:
		l, e := b.d.Read(live(), 0, whole)
		if e == api.OK {
			at := r.roll(whole)
			l[at][r.roll(sector)] ^= 1 << r.roll(8)
			b.d.Write(live(), 0, l)
		}
	default:
		b.d.Make(pick(r, "free-1", "free-2", "b"), pick(r, 1, whole))
	}
}

// P25.2, P25.3: long rows of steps of a log, among crashes, and of what no log does.
func TestRowsAgainstSlow(t *testing.T) {
	n := tally{}
	for turn := range 200 {
		r := dice(turn)
		first := api.Header{Epoch: uint64(1 + r.roll(9)), Seq: pick(&r, 1, 8, 98, 1+r.roll(1000)), First: 1 + r.roll(300)}
		b := newBook(t, turn%3 == 0, first)
		for call := range 60 {
			switch r.roll(12) {
			case 0, 1:
				b.sync()
			case 2:
				b.roll(r.roll(4) > 0)
			case 3:
				if turn%2 == 0 {
					r.meddle(b)
				}
			case 4:
				if r.roll(4) == 0 {
					b.d.Fail(r.roll(9))
				}
			case 5:
				if b.d.Down() || r.roll(9) == 0 {
					b.d.Crash(r.crash())
				}
			default:
				b.add(r.roll(chains), r.roll(30)*r.roll(12))
			}
			_, e := asSlow(t, fmt.Sprintf("turn %d, call %d", turn, call), b.d)
			n[e]++
		}
	}
	n.more(t, 1500, api.OK, api.ErrCorrupt)
	n.more(t, 300, api.ErrDown)
}
