package tear

import (
	"slices"
	"testing"

	"strandline/api"
	"strandline/scan"
)

// crashed is a segment of which the first records were synced, over sectors that were there before: what was lasting ahead of the crash, and which sectors were written behind the last sync.
type crashed struct {
	segment
	synced      int
	old         []api.Sec
	first, last int
}

// crashOf is a segment with that many records synced. None of the sectors that were there before is stamped with its epoch and its place (but, by the epoch 0, an empty first one).
func crashOf(s segment, synced int, before []api.Sec) crashed {
	c := crashed{segment: s, synced: synced, old: slices.Clone(before), first: s.endOf(synced) / room, last: (s.end() + room - 1) / room}
	body := make([]byte, all)
	copy(body, s.body[:s.endOf(synced)])
	for i, sec := range sealed(s.epoch, body, s.endOf(synced)) {
		if room*i < s.endOf(synced) {
			c.old[i] = sec
		}
	}
	return c
}

// waits is how many sectors wait.
func (c crashed) waits() int {
	return max(c.last-c.first, 0)
}

// mix is a sector of which the first cut bytes are the new ones, the others the old ones.
func mix(old, next api.Sec, cut int) api.Sec {
	for k := range cut {
		old[k] = next[k]
	}
	return old
}

// left are the sectors behind a crash that keeps those that bits of keep tell, and tears one, if there is one such.
func (c crashed) left(keep, torn, cut int) []api.Sec {
	l := slices.Clone(c.old)
	for i := range c.waits() {
		k := c.first + i
		switch {
		case i == torn:
			l[k] = mix(c.old[k], c.secs[k], cut)
		case keep>>i&1 == 1:
			l[k] = c.secs[k]
		}
	}
	return l
}

// before are sectors that a segment may have ahead of its first record, none of them stamped with its epoch and its place, but for the first few bytes of some stamps: of those that are torn there, the room is what was there before.
func before(t *testing.T, s segment) [][]api.Sec {
	t.Helper()
	l := [][]api.Sec{make([]api.Sec, sectors)}
	bodies := [][]byte{lay(t, s.epoch, othersOf(s)).body, fake(s.epoch, fragments, 0), s.body, fake(s.epoch, firsts, 0), segmentOf(t, s.epoch, anything, filling(30)...).body, scatter(all)}
	for i, body := range bodies {
		body = ended(s, body)
		for k, other := range []uint64{s.epoch ^ 1, s.epoch ^ 1<<32, s.epoch ^ 5<<56, s.epoch ^ 1<<16} {
			if (i+k)%2 == 0 {
				l = append(l, sealed(other, body, all))
			}
		}
		astray := make([]api.Sec, sectors)
		for k := range astray {
			astray[k] = stamped(s.epoch, k^1, body[room*k:room*k+room])
		}
		l = append(l, astray)
	}
	return l
}

// ended is a copy of a body in which no fragment stands where the one that comes behind a segment's last record would: nothing is meant there, so Free asks nothing of it.
func ended(s segment, body []byte) []byte {
	body = slices.Clone(body)
	if at := begin(s.end()); at < all {
		body[at] ^= 4
	}
	return body
}

// atMostFour tells whether at most four bytes next to one another of a sector of the segment aren't the intended ones, none of them one of a fragment's length.
func (s segment) atMostFour(i int, now api.Sec) bool {
	first, behind := 0, 0
	for k := range sector {
		if now[k] == s.secs[i][k] {
			continue
		}
		if behind == 0 {
			first = k
		}
		behind = k + 1
		for _, m := range s.meant {
			if at := room*i + k - ahead; k >= ahead && (at == m.at+4 || at == m.at+5) {
				return false
			}
		}
	}
	return behind-first <= 4
}

// tally counts what the crashes of a test leave: all, those free of collisions, those with but few bytes that aren't the intended ones, those that clash, and those of which others than first records are scanned.
type tally struct{ all, free, few, clash, wrong int }

// check fails, if anything but first records, all that were synced among them, is scanned of what a crash leaves that is free of collisions; or if it isn't, though no sector is torn, or of the torn one but few bytes aren't the intended ones.
func (c crashed) check(t *testing.T, n *tally, keep, torn, cut int) {
	t.Helper()
	l := c.left(keep, torn, cut)
	want, _ := slowClashes(c.epoch, c.recs, l)
	c.clash(t, "behind a crash", l, want...)
	n.all++
	few := torn < 0 || torn >= c.waits() || c.atMostFour(c.first+torn, l[c.first+torn])
	if few {
		n.few++
	}
	if len(want) > 0 {
		n.clash++
		if few {
			t.Fatalf("%s, %d synced, kept %b, torn %d at %d: %v clash", c.what(), c.synced, keep, torn, cut, want)
		}
		if !c.firsts(l) {
			n.wrong++
		}
		return
	}
	n.free++
	if !c.firsts(l) {
		t.Fatalf("%s, %d synced, kept %b, torn %d at %d: free of collisions, but other records are scanned", c.what(), c.synced, keep, torn, cut)
	}
}

// firsts tells whether just first records, all that were synced among them, are scanned.
func (c crashed) firsts(l []api.Sec) bool {
	got := scan.Scan(c.epoch, l)
	n := len(got.Recs)
	return n >= c.synced && n <= len(c.recs) && got.End == c.endOf(n) && slices.EqualFunc(got.Recs, c.recs[:n], slices.Equal[[]byte])
}

// cuts are the places at which a sector is torn: all, or those at the bounds of a stamp, of the fragments in it, and of their heads, and some others.
func (c crashed) cuts(i, which int) []int {
	l := []int{0, 1, 4, 5, 8, 9, ahead - 1, ahead, ahead + 1, sector - 4, sector - 1, sector, which % sector}
	for _, m := range c.meant {
		for _, at := range []int{m.at, m.at + 2, m.at + 4, m.at + 5, m.at + 7, m.at + head, m.at + len(m.bytes) - 1, m.at + len(m.bytes)} {
			if at/room == i {
				l = append(l, ahead+at%room)
			}
		}
	}
	slices.Sort(l)
	return slices.Compact(l)
}

// each checks crashes: all choices, and each way to tear each sector, where they are few, else many.
func (c crashed) each(t *testing.T, n *tally) {
	t.Helper()
	w := c.waits()
	var choices []int
	if w <= 3 {
		for k := range 1 << w {
			choices = append(choices, k)
		}
	} else {
		b := mixed(c.synced+w, 6)
		choices = []int{0, 1<<w - 1, int(b[0]) | int(b[1])<<8, int(b[2]) | int(b[3])<<8}
	}
	for _, keep := range choices {
		c.check(t, n, keep, -1, 0)
		c.check(t, n, keep, w, 5)
	}
	for i := range w {
		if w <= 2 {
			for cut := range sector + 1 {
				for _, keep := range choices {
					c.check(t, n, keep, i, cut)
				}
			}
			continue
		}
		for k, cut := range c.cuts(c.first+i, i*7+w) {
			c.check(t, n, choices[k%len(choices)], i, cut)
			c.check(t, n, 1<<w-1, i, cut)
		}
	}
}

// crashLists are lengths of records that a log may have in one segment.
func crashLists() [][]int {
	l := [][]int{{20}, {20, 20}, {100}, {197, 11}, {300, 20}, {20, 300, 20}, {41, 41, 41, 41}, {30, 60, 30, 60, 30}, {longest}, {longest, 265}, {10, longest, 10}, {100, 100, 100, 100, 100, 100}, many(20, 10), many(4, most), {186, 1, 0, 0, 200}, {0, 0, 0, 0, 0, 0}, {50, 150, 250}, {4, 4, 4}, {30, 3, 2}, {41, 1}, {38, 3}}
	for _, lengths := range anyLists(12) {
		if len(lengths) < 20 && (len(lengths) == 0 || slices.Max(lengths) <= longest) {
			l = append(l, lengths)
		}
	}
	return l
}

// P20.3, P20.4: of all lists, with as many records synced as there may be, over all that was there before: behind each crash, those that tear a sector too.
func TestCrash(t *testing.T) {
	var n tally
	for i, lengths := range crashLists() {
		s := segmentOf(t, epochOf(i), look(i)%looks, lengths...)
		over := before(t, s)
		for synced := range len(s.recs) + 1 {
			for _, b := range []int{(i + synced) % 3, 3 + (i+7*synced+5)%(len(over)-3)} {
				crashOf(s, synced, over[b]).each(t, &n)
			}
		}
	}
	if n.all < 50000 || n.free < 20000 || n.few < 10000 || n.clash < 1000 {
		t.Errorf("of the crashes %+v", n)
	}
}
