package tear

import (
	"slices"
	"testing"

	"strandline/api"
	"strandline/crash"
	"strandline/disk"
	"strandline/image"
	"strandline/plan"
)

// P20.4: one sector with at most four bytes next to one another that aren't the intended ones, none of these one of a fragment's length: each four, changed in many ways, in each sector, behind crashes that keep all others, and just some.
func TestFewBytes(t *testing.T) {
	turns := [][4]byte{{1}, {0, 0, 0, 128}, {1, 0, 0, 1}, {255, 255, 255, 255}, {3, 5, 7, 9}, {128, 0, 255, 1}, {0, 64, 1, 0}}
	for k, lengths := range crashLists() {
		s := segmentOf(t, epochOf(k+2), look(k)%looks, lengths...)
		for i := range (s.end() + room - 1) / room {
			for at := range sector {
				for n, turn := range turns {
					if (n+at+k+i)%3 > 0 {
						continue
					}
					l := with(s.secs, i, turnedAt(s, i, at, turn))
					if !s.atMostFour(i, l[i]) {
						t.Fatalf("%s: not four bytes at %d of the sector %d", s.what(), at, i)
					}
					s.clash(t, "few bytes of one sector others", l)
					for k := range l {
						if k != i && (k+at)%3 == 0 {
							l[k] = api.Sec{}
						}
					}
					s.clash(t, "few bytes of one sector others, some sectors lost", l)
				}
			}
		}
	}
}

// turnedAt is a segment's sector with four bytes changed so, but those of a fragment's length, and those behind its end.
func turnedAt(s segment, i, at int, turn [4]byte) api.Sec {
	c := s.secs[i]
	for k, x := range turn {
		if at+k < sector {
			c[at+k] ^= x
		}
	}
	for _, m := range s.meant {
		for _, length := range []int{m.at + 4, m.at + 5} {
			if length/room == i {
				c[ahead+length%room] = s.secs[i][ahead+length%room]
			}
		}
	}
	return c
}

// P20.4: as a crash tears it: the sector that was there before has but these bytes otherwise, and those of the stamp ahead of the cut.
func TestFewBytesTorn(t *testing.T) {
	var n tally
	s := segmentOf(t, 1<<40+7, anything, 20, 90, 0, 41, 30)
	for i := range (s.end() + room - 1) / room {
		for at := range sector {
			old := make([]api.Sec, sectors)
			for k := range old {
				old[k] = stamped(s.epoch^1, k, s.secs[k][ahead:])
			}
			c := turnedAt(s, i, at, [4]byte{5, 255, 1, 128})
			old[i] = stamped(s.epoch^1, i, c[ahead:])
			was := crashOf(s, 0, old)
			for cut := range sector + 1 {
				was.check(t, &n, -1, i, cut)
				was.check(t, &n, 0x5b5b>>(at%8), i, cut)
			}
		}
	}
	// Of those torn at 0 the stamp is the old one too.
	if n.clash > 0 || n.free != n.all || n.few < n.all/sector*(sector-1) {
		t.Errorf("of the crashes %+v", n)
	}
}

// collide are bits that, turned in a fragment's Data, leave its sum as it is: layer 3's polynomial, in five bytes.
func collide(data []byte, at int) []byte {
	data = slices.Clone(data)
	for k := range 5 {
		data[at+k] ^= byte(uint64(1|0x82f63b78<<1) >> (8 * k))
	}
	return data
}

// P20.1, P20.3: five bytes that aren't the intended ones, by which the sum is the same: another one is told, so it isn't free of collisions.
func TestFiveBytes(t *testing.T) {
	for _, lengths := range [][]int{{5}, {20}, {5, 36}, {20, 30, 12}, {186, 100}} {
		s := segmentOf(t, 6, anything, lengths...)
		for _, m := range s.meant {
			for at := range max(len(m.data)-4, 0) {
				body := slices.Clone(s.body)
				copy(body[m.at+head:], collide(m.data, at))
				if !slices.Equal(body[m.at:m.at+len(m.bytes)], fragment(m.kind, 6, collide(m.data, at))) {
					t.Fatalf("%s: the sum of the fragment at %d is another one", s.what(), m.at)
				}
				s.clash(t, "five bytes others, the sum the same", sealed(6, body, s.end()), m.at)
			}
		}
	}
}

// P20.3: torn between a fragment's head and its Data, and in its Data, so that its sum is right: wherever it is told it isn't free, and there other records would be scanned.
func TestTornCollision(t *testing.T) {
	var n tally
	for _, lengths := range [][]int{{20}, {5, 20}, {10, 10, 5}, {41}} {
		s := segmentOf(t, 6, anything, lengths...)
		for _, m := range s.meant {
			for at := range max(len(m.data)-4, 0) {
				body := slices.Clone(s.body)
				copy(body[m.at+head:], collide(m.data, at))
				for _, other := range []uint64{6 ^ 1, 6 ^ 1<<32, 6 ^ 1<<56} {
					was := crashOf(s, 0, sealed(other, body, all))
					for cut := range sector + 1 {
						for keep := range 1 << was.waits() {
							was.check(t, &n, keep, m.at/room, cut)
						}
					}
				}
			}
		}
	}
	if n.clash < 1000 || n.wrong < 1000 || n.free < 1000 {
		t.Errorf("of the crashes %+v", n)
	}
}

// ending are four bytes behind b by which layer 3's steps come to want.
func ending(b []byte, want uint32) []byte {
	s := want
	for range 32 {
		if s>>31 == 1 {
			s = (s^0x82f63b78)<<1 | 1
		} else {
			s <<= 1
		}
	}
	s ^= state(b)
	return append(slices.Clone(b), byte(s), byte(s>>8), byte(s>>16), byte(s>>24))
}

// P20.4: one byte of a fragment's length alone may make another one of it: why none of the few bytes may be one of a length.
func TestLengthTorn(t *testing.T) {
	for _, c := range []struct{ n, told int }{{4, 0}, {9, 1}, {20, 15}, {41, 37}, {41, 9}, {100, 3}, {197, 96}} {
		data := mixed(c.n, c.n-4)
		// The shorter one's sum is that of the longer one, whose last bytes are made so.
		data = ending(summed(1, 6, append(data, 0, 0, 0, 0))[:7+c.n-4], state(summed(1, 6, data[:c.told])))[7:]
		s := lay(t, 6, [][]byte{data})
		if len(data) != c.n || !slices.Equal(s.body[:4], fragment(1, 6, data[:c.told])[:4]) {
			t.Fatalf("%d bytes have another sum than %d of them", c.n, c.told)
		}
		l := turned(s.secs, 4, byte(c.n^c.told))
		s.clash(t, "a byte of its length another one", l, 0)
		if (crashed{segment: s}).firsts(l) {
			t.Errorf("%s: another record isn't scanned", s.what())
		}
		if s.atMostFour(0, l[0]) {
			t.Errorf("%s: its length isn't seen", s.what())
		}
	}
}

// P20.3, P20.4: each choice that layer 9 tells, of sectors that wait, those that tear one too, as it leaves them.
func TestCrashLeaves(t *testing.T) {
	for k, lengths := range [][]int{{30, 60, 30}, {150, 20}, {10, 10, 10, 10, 10, 10, 10}} {
		s := segmentOf(t, 6, look(k)%looks, lengths...)
		for _, over := range before(t, s) {
			for synced := range len(s.recs) + 1 {
				c := crashOf(s, synced, over)
				from, to := c.first, max(c.first, c.last)
				choices := crash.All(to - from)
				for cut := k; cut <= sector; cut += 9 {
					choices = append(choices, crash.Tears(to-from, cut)...)
				}
				for _, choice := range choices {
					l := slices.Concat(c.old[:from], crash.Apply(c.old[from:to], c.secs[from:to], choice), c.old[to:])
					free := Free(6, s.recs, l)
					if free && !c.firsts(l) || !free && !crash.Torn(choice, to-from) || free != (asRead(t, s.what(), 6, s.recs, l) == nil) {
						t.Fatalf("%s, %d synced, %v: free is %t", s.what(), synced, choice, free)
					}
				}
			}
		}
	}
}

// fine fails, if there is an error.
func fine(t *testing.T, e api.Errno) {
	t.Helper()
	if e != api.OK {
		t.Fatalf("an error, %d", e)
	}
}

// written is a disk with a file over those sectors, to which a segment's records were written, one by one, each behind the other, and synced behind that many of them.
func written(t *testing.T, s segment, over []api.Sec, synced int) *disk.Disk {
	t.Helper()
	d, e := disk.Lay(sectors, []api.File{{Name: "wal-1", L: over}})
	fine(t, e)
	body, at := []byte(nil), 0
	for i, data := range s.recs {
		next, behind, ok := image.Add(s.epoch, body, at, data)
		if !ok {
			t.Fatalf("%s: no room", s.what())
		}
		first, l := plan.Write(s.epoch, next, at, behind)
		fine(t, d.Write("wal-1", first, l))
		body, at = next, behind
		if i+1 == synced {
			fine(t, d.Sync("wal-1"))
		}
	}
	return d
}

// P20.3: on a disk that loses its power, and tears a sector: records that are written one by one, some of them synced.
func TestCrashOfDisk(t *testing.T) {
	free, clashed := 0, 0
	for i, lengths := range [][]int{{20, 20, 20, 20, 20}, {197, 11, 30, 300}, {longest, 100, 100}, {41, 41, 93, 41}, many(12, 30)} {
		s := segmentOf(t, epochOf(3*i), look(i)%looks, lengths...)
		for k, over := range before(t, s) {
			for synced := range len(lengths) + 1 {
				d := written(t, s, over, synced)
				for n := range 20 {
					b := mixed(n+i, 4)
					c := d.Clone()
					c.Crash(api.Crash{Keep: b[:2], Torn: (n + k) % max(d.Waiting(), 1), Cut: int(b[3]) % (sector + 1)})
					l, e := c.Read("wal-1", 0, sectors)
					fine(t, e)
					if asRead(t, s.what(), s.epoch, s.recs, l) != nil {
						clashed++
						continue
					}
					free++
					if !crashOf(s, synced, over).firsts(l) {
						t.Fatalf("%s, %d synced: free of collisions, but other records are scanned", s.what(), synced)
					}
				}
			}
		}
	}
	if free < 5000 || clashed < 200 {
		t.Errorf("%d are free, %d clash", free, clashed)
	}
}
