package reader

import (
	"slices"
	"testing"

	"strandline/api"
)

// P24.1: of each record that is laid in a segment, at its place: its bytes, and the place behind it; longer ones than may be told stand nowhere.
func TestLaid(t *testing.T) {
	for _, s := range stones(t) {
		for i, rec := range s.recs {
			if len(rec) <= longest {
				stands(t, s, s.epoch, s.secs, s.places[i], rec, s.behind[i])
			} else {
				lacks(t, s, s.epoch, s.secs, s.places[i])
			}
		}
	}
}

// P24.1: at each place, and beyond, of all segments: where a record begins, where one goes on, within one, behind the last one, and where fewer than 11 bytes are left.
func TestEachPlace(t *testing.T) {
	for _, s := range stones(t) {
		found := everywhere(t, s, s.epoch, s.secs)
		for i, at := range s.places {
			if len(s.recs[i]) <= longest && !slices.Contains(found, at) {
				t.Fatalf("%v: nothing stands at %d", s, at)
			}
		}
	}
}

// P24.1: what stands in a record's own bytes: where these look like a right fragment one is told, as its place says.
func TestWithinRecord(t *testing.T) {
	data := slices.Concat(mixed(1, 9), fragment(1, 7, []byte("within")), mixed(2, 90))
	s := lay(t, 7, [][]byte{nil, data})
	at := s.places[1] + head + 9
	stands(t, s, 7, s.secs, at, []byte("within"), at+head+6)
	if found := everywhere(t, s, 7, s.secs); !slices.Equal(found, []int{0, 11, at}) {
		t.Errorf("%v: at %v", s, found)
	}
}

// P24.1: a record of each length, from places at the bounds of sectors and blocks on, laid with others ahead.
func TestEachLength(t *testing.T) {
	for _, first := range []int{-1, 0, 1, 20, 29, 30, 31, 93, 180, 186, 187, most, 300} {
		for n := range longest + 2 {
			lengths := []int{first, n, 0}
			if first < 0 {
				lengths = lengths[1:]
			}
			_, at, _ := pieces(0, max(first, 0))
			if first < 0 {
				at = 0
			}
			if _, behind, ok := pieces(at, n); !ok || begin(behind) == all {
				continue
			}
			s := stoneOf(t, epochOf(n), look(n)%looks, lengths...)
			at = begin(at)
			if n > longest {
				lacks(t, s, s.epoch, s.secs, at)
				continue
			}
			stands(t, s, s.epoch, s.secs, at, s.recs[len(lengths)-2], s.behind[len(lengths)-2])
			asRead(t, s, s.epoch, s.secs, at-1)
			asRead(t, s, s.epoch, s.secs, at+1)
		}
	}
}

// P24.1: one fragment, laid at each place itself, of each length: it stands there, as far as its block has room for it.
func TestOneAtEachPlace(t *testing.T) {
	for at := range all {
		for _, n := range []int{0, 1, 2, 9, 10, 11, 40, 41, 42, 50, 93, 145, 186, most, (block - at%block) - head - 1, (block - at%block) - head, (block - at%block) - head + 1} {
			if n < 0 || n > most {
				continue
			}
			epoch, data := epochOf(at+n), mixed(n, n)
			l := byHand(epoch, at, []part{{1, data}})
			if at%block+head+n <= block {
				stands(t, "one fragment", epoch, l, at, data, at+head+n)
			} else {
				lacks(t, "one fragment", epoch, l, at)
			}
		}
	}
}

// P24.1: two fragments, the first one laid at each place itself, the other one where one goes on: there alone.
func TestTwoAtEachPlace(t *testing.T) {
	for at := range all {
		for n := at % 3; n < 70; n += 3 {
			if at%block+head+n > block {
				break
			}
			epoch := epochOf(at + n)
			first, then := fragment(2, epoch, mixed(n, n)), fragment(4, epoch, []byte("end"))
			for on := at + head + n; on < at+head+n+head+1 && on+len(then) <= all; on++ {
				body := make([]byte, all)
				copy(body[at:], first)
				copy(body[on:], then)
				l := sealed(epoch, body, all)
				if on == begin(at+head+n) && on%block+len(then) <= block {
					stands(t, "two fragments", epoch, l, at, append(mixed(n, n), "end"...), on+len(then))
				} else {
					lacks(t, "two fragments", epoch, l, at)
				}
			}
		}
	}
}

// P24.1: as many fragments as there may be, without bytes, with one each, and with as many as they may have.
func TestManyFragments(t *testing.T) {
	for count := 1; count <= 64; count++ {
		for _, n := range []int{0, 1, 2, 30} {
			var l []part
			var rec []byte
			behind := 0
			for i := range count {
				l = append(l, part{3, mixed(i, n)})
				rec = append(rec, mixed(i, n)...)
				behind = begin(behind) + head + n
			}
			l[0].kind, l[count-1].kind = 2, 4
			if count == 1 {
				l[0].kind = 1
			}
			if len(rec) > longest || behind > all || n == 2 && count > 60 || n == 30 && count > 15 {
				continue
			}
			stands(t, "many fragments", 5, byHand(5, 0, l), 0, rec, behind)
		}
	}
	l := slices.Repeat([]part{{3, nil}}, 64)
	l[0].kind = 2
	lacks(t, "no last one", 5, byHand(5, 0, l), 0)
	l[63].kind = 4
	stands(t, "64 fragments", 5, byHand(5, 0, l), 0, nil, 15*room+44)
}

// P24.1: a record of as many bytes as may be told, and of one more, whatever its fragments.
func TestLongest(t *testing.T) {
	for _, c := range []struct {
		from    int
		lengths []int
	}{
		{0, []int{most, most, 118}}, {0, []int{most, most, 119}}, {0, []int{most, most, most}}, {0, []int{most, most, 118, 0}}, {0, []int{most, most, 118, 1}},
		{0, []int{most, most, 117, 1}}, {0, []int{most, most, 117, 2}}, {0, []int{most, most, 0, 118}}, {0, []int{most, most, 0, 119}}, {0, []int{most, most, 1, 117}},
		{100, []int{97, most, most, 21}}, {100, []int{97, most, most, 22}}, {100, []int{97, most, most, 20, 1}}, {100, []int{97, most, most, 20, 2}}, {100, []int{97, most, most, most}},
		{195, []int{0, most, most, 118}}, {195, []int{1, most, most, 117}}, {195, []int{2, most, most, 113}}, {195, []int{2, most, most, 114}}, {195, []int{2, most, most, 116}},
		{208, []int{most, most, 118}}, {208, []int{most, most, 119}}, {208, []int{most, most, 118, 0, 0}},
	} {
		var l []part
		var rec []byte
		behind := c.from
		for i, n := range c.lengths {
			l = append(l, part{3, mixed(i, n)})
			rec = append(rec, mixed(i, n)...)
			if i > 0 {
				behind = begin(behind)
			}
			behind += head + n
		}
		l[0].kind, l[len(l)-1].kind = 2, 4
		secs := byHand(5, c.from, l)
		if asRead(t, c.lengths, 5, secs, c.from); len(rec) > longest {
			lacks(t, c.lengths, 5, secs, c.from)
		} else {
			stands(t, c.lengths, 5, secs, c.from, rec, behind)
		}
	}
}

// P24.1: of no sectors, of fewer than Data and of more, of all places: sectors that lack have nothing, those behind Data play no part.
func TestFewerAndMore(t *testing.T) {
	for _, lengths := range [][]int{{}, {20, 300, 20}, {longest, 265}, many(64, 0), many(4, most), filling(60)} {
		s := stoneOf(t, 4, anything, lengths...)
		for n := range sectors + 1 {
			everywhere(t, s, 4, s.secs[:n])
			for i, at := range s.places {
				if s.behind[i] <= room*n {
					stands(t, s, 4, s.secs[:n], at, s.recs[i], s.behind[i])
				} else {
					lacks(t, s, 4, s.secs[:n], at)
				}
			}
		}
		for n := 1; n < 20; n++ {
			l := slices.Clone(s.secs)
			for i := range n {
				l = append(l, stamped(4, sectors+i, slices.Repeat(fragment(1, 4, nil), 4)))
			}
			for i, at := range s.places {
				stands(t, s, 4, l, at, s.recs[i], s.behind[i])
			}
			lacks(t, s, 4, l, all)
			everywhere(t, s, 4, l)
		}
	}
	for _, epoch := range epochs() {
		for _, l := range [][]api.Sec{nil, {}, make([]api.Sec, 1), make([]api.Sec, sectors), make([]api.Sec, 40)} {
			if found := everywhere(t, "empty sectors", epoch, l); len(found) != 0 {
				t.Fatalf("at %v", found)
			}
		}
	}
}

// P24.1: by each Epoch that sectors are stamped with, by others, and by 0: just by that one alone.
func TestEpochs(t *testing.T) {
	for _, epoch := range epochs() {
		s := stoneOf(t, epoch, firsts, 20, 300, 20)
		for _, asked := range append(epochs(), epoch+1, epoch-1, epoch^1<<31, epoch+1<<32, epoch^1<<63, epoch^1) {
			for i, at := range s.places {
				if asked == epoch {
					stands(t, s, asked, s.secs, at, s.recs[i], s.behind[i])
				} else {
					lacks(t, s, asked, s.secs, at)
				}
			}
			if asked == epoch+1 || asked == 0 {
				everywhere(t, s, asked, s.secs)
			}
		}
	}
}

// P24.1: fragments of another epoch, in sectors that are stamped right: just such that have the same lowest 32 bits.
func TestFragmentsEpoch(t *testing.T) {
	for _, epoch := range epochs() {
		for _, other := range append(epochs(), epoch+1, epoch-1, epoch^1<<31, epoch+1<<32, epoch^1<<63) {
			for i := range 4 {
				of := slices.Repeat([]uint64{epoch}, 4)
				of[i] = other
				b := slices.Concat(fragment(2, of[0], []byte("a")), fragment(3, of[1], []byte("b")), fragment(4, of[2], []byte("c")), fragment(1, of[3], []byte("d")))
				l := sealed(epoch, append(b, make([]byte, all)...), all)
				if i == 3 || uint32(other) == uint32(epoch) {
					stands(t, "another epoch's fragment", epoch, l, 0, []byte("abc"), 36)
				} else {
					lacks(t, "another epoch's fragment", epoch, l, 0)
				}
				if i < 3 || uint32(other) == uint32(epoch) {
					stands(t, "another epoch's fragment", epoch, l, 36, []byte("d"), 48)
				} else {
					lacks(t, "another epoch's fragment", epoch, l, 36)
				}
			}
		}
	}
}
