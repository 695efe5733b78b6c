package scan

import (
	"slices"
	"testing"

	"strandline/api"
	"strandline/crash"
	"strandline/disk"
	"strandline/image"
	"strandline/plan"
)

// before are sectors that a segment may have ahead of its first record: empty ones, those of other epochs that are full of records, whose bytes look like records of this epoch, and such that are stamped with another place; none is stamped with that epoch and its place (but, by the epoch 0, an empty first one).
func before(t *testing.T, epoch uint64) [][]api.Sec {
	t.Helper()
	l := [][]api.Sec{make([]api.Sec, sectors)}
	for i, other := range []uint64{epoch - 1, epoch + 1, epoch - 1<<32, epoch ^ 1<<63} {
		s := segmentOf(t, other, stamps, filling(longest)...)
		for k := range s.secs {
			// The room is this epoch's, as far as a fragment tells.
			copy(s.secs[k][ahead:], fake(epoch, fragments+look(i%2), i)[room*k:room*k+room])
		}
		l = append(l, s.secs, segmentOf(t, other, stamps, filling(250)...).secs)
	}
	var astray []api.Sec
	for i := range sectors {
		astray = append(astray, stamped(epoch, i+1, mixed(i, room)))
	}
	return append(l, astray)
}

// crashed is a segment of which the first records were synced, over sectors that were there before: the sectors that were synced, and which ones were written behind that.
type crashed struct {
	segment
	synced      int
	old         []api.Sec
	first, last int
}

// crashOf is a segment with that many records synced.
func crashOf(s segment, synced int, before []api.Sec) crashed {
	c := crashed{segment: s, synced: synced, old: slices.Clone(before), first: s.endOf(synced) / room, last: (s.end() + room - 1) / room}
	body := make([]byte, all)
	copy(body, s.body[:s.endOf(synced)])
	for i, sec := range sealed(s.epoch, body, s.endOf(synced)) {
		if room*i < s.endOf(synced) {
			c.old[i] = sec
		}
	}
	return c
}

// left are the sectors of which just those are new that keep tells.
func (c crashed) left(keep func(i int) bool) []api.Sec {
	l := slices.Clone(c.old)
	for i := c.first; i < c.last; i++ {
		if keep(i - c.first) {
			l[i] = c.secs[i]
		}
	}
	return l
}

// survive tells how many records are told, if just those sectors are kept: the synced ones, and those behind all of whose sectors are, as far as there are no others between.
func (c crashed) survive(keep func(i int) bool) int {
	n := c.synced
	for ; n < len(c.recs); n++ {
		l, _, _ := pieces(c.endOf(n), len(c.recs[n]))
		for _, p := range l {
			for at := p.at; at < p.at+head+p.to-p.from; at++ {
				if !keep(at/room - c.first) {
					return n
				}
			}
		}
	}
	return n
}

// check fails, if anything else is told behind a crash that keeps just those sectors.
func (c crashed) check(t *testing.T, keep func(i int) bool) {
	t.Helper()
	l := c.left(keep)
	got, n := Scan(c.epoch, l), c.survive(keep)
	if n < c.synced || !same(got, c.told(n, kindOf(slowRest(l, c.endOf(n))))) {
		t.Fatalf("%s, %d synced: %s, not the first %d", c.what(), c.synced, text(got), n)
	}
}

// bits tells a choice of sectors, by a number's bits.
func bits(k int) func(i int) bool {
	return func(i int) bool { return k>>i&1 == 1 }
}

// choices checks all choices of the sectors that were written, if they are few, else many of them.
func (c crashed) choices(t *testing.T, few, count int) {
	t.Helper()
	n := c.last - c.first
	if n <= few {
		for k := range 1 << n {
			c.check(t, bits(k))
		}
		return
	}
	for i := range n + 1 {
		c.check(t, bits(1<<n-1-1<<i))
		c.check(t, bits(1<<i))
		c.check(t, bits(1<<i-1))
		c.check(t, bits(1<<n-1<<i))
	}
	for i := range count {
		b := mixed(i%50, 2*count)
		c.check(t, bits(int(b[2*i])|int(b[2*i+1])<<8))
		c.check(t, bits(int(b[2*i])|int(b[2*i+1])<<8|0x1111<<(i%4)))
	}
}

// crashLists are lengths of records that a log may have in one segment.
func crashLists() [][]int {
	l := [][]int{{20}, {20, 20}, {100}, {197, 11}, {300, 20}, {20, 300, 20}, {41, 41, 41, 41}, {30, 60, 30, 60, 30}, {longest}, {longest, 265}, {10, longest, 10}, {100, 100, 100, 100, 100, 100}, many(20, 10), many(4, most), {186, 1, 0, 0, 200}, {0, 0, 0, 0, 0, 0}, {50, 150, 250}}
	return append(l, anyLists(12)...)
}

// P19.4: behind each crash that tears no sector just first records are told, all that were synced among them: of all lists, with as many synced as there may be, over all that was there before, whatever the records' bytes are.
func TestCrash(t *testing.T) {
	for i, lengths := range crashLists() {
		epoch := epochOf(i)
		over := before(t, epoch)
		for k := range looks {
			s := segmentOf(t, epoch, k, lengths...)
			if s.short() < len(s.recs) {
				continue
			}
			for synced := range len(s.recs) + 1 {
				for _, b := range []int{0, 1 + (i+int(k)+synced)%(len(over)-1)} {
					// By the epoch 0 an empty first sector is stamped, and has no record.
					crashOf(s, synced, over[b]).choices(t, 8, 40)
				}
			}
		}
	}
}

// P19.4: all choices of all sectors of a segment.
func TestCrashAllChoices(t *testing.T) {
	for i, lengths := range [][]int{{longest, 265}, {100, 41, 300, 0, 12, 200}} {
		over := before(t, 6)
		s := segmentOf(t, 6, zero+look(3*i), lengths...)
		crashOf(s, i, over[2*i+1]).choices(t, sectors, 0)
	}
}

// P19.4: each choice that layer 9 tells, of up to eight sectors that wait, as it leaves them.
func TestCrashLeaves(t *testing.T) {
	s := segmentOf(t, 6, fragments, 30, 60, 30, 150, 60)
	for _, over := range before(t, 6) {
		for synced := range len(s.recs) + 1 {
			c := crashOf(s, synced, over)
			from, to := c.first, c.last
			for _, choice := range crash.All(to - from) {
				l := slices.Concat(c.old[:from], crash.Apply(c.old[from:to], c.secs[from:to], choice), c.old[to:])
				got := Scan(6, l)
				if n := len(got.Recs); n < synced || n > len(s.recs) || !same(got, s.told(n, kindOf(slowRest(l, s.endOf(n))))) {
					t.Fatalf("%s, %d synced, %v: %s", s.what(), synced, choice, text(got))
				}
			}
		}
	}
}

// fine fails, if there is an error.
func fine(t *testing.T, e api.Errno) {
	t.Helper()
	if e != api.OK {
		t.Fatalf("an error, %d", e)
	}
}

// written is a disk with a file over those sectors, to which records were written, one by one, each behind the other, and synced up to one of them.
func written(t *testing.T, s segment, over []api.Sec, count, synced int) *disk.Disk {
	t.Helper()
	d, e := disk.Lay(sectors, []api.File{{Name: "wal-1", L: over}})
	fine(t, e)
	body, at := []byte(nil), 0
	for i := range count {
		next, behind, ok := image.Add(s.epoch, body, at, s.recs[i])
		if !ok {
			t.Fatalf("%s: no room", s.what())
		}
		first, l := plan.Write(s.epoch, next, at, behind)
		fine(t, d.Write("wal-1", first, l))
		body, at = next, behind
		if i+1 == synced {
			fine(t, d.Sync("wal-1"))
		}
	}
	return d
}

// P19.4: on a disk that loses its power: records that are written one by one, some of them synced, behind crashes of all that waits, ahead of any of them.
func TestCrashOfDisk(t *testing.T) {
	for i, lengths := range [][]int{{20, 20, 20, 20, 20}, {197, 11, 30, 300}, {longest, 100, 100}, {41, 41, 93, 41}, many(12, 30)} {
		epoch := epochOf(3 * i)
		s := segmentOf(t, epoch, look(i)%looks, lengths...)
		for _, over := range before(t, epoch)[:3+i%3] {
			for count := range len(lengths) + 1 {
				for synced := range count + 1 {
					d := written(t, s, over, count, synced)
					for k := range 40 {
						c := d.Clone()
						c.Crash(api.Crash{Keep: mixed(k+i, 2), Torn: -1})
						l, e := c.Read("wal-1", 0, sectors)
						fine(t, e)
						got := Scan(epoch, l)
						if n := len(got.Recs); n < synced || n > count || !same(got, s.told(n, kindOf(slowRest(l, s.endOf(n))))) {
							t.Fatalf("%s, %d written, %d synced: %s", s.what(), count, synced, text(got))
						}
					}
				}
			}
		}
	}
}
