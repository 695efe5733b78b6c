package scan

import (
	"slices"
	"strconv"
	"testing"

	"strandline/api"
)

// part is a fragment that is laid by hand: its Kind, and its Data.
type part struct {
	kind int
	data []byte
}

// byHand are the sectors of fragments that are laid one behind the other, each cut off at its block's end.
func byHand(epoch uint64, parts []part) []api.Sec {
	body := make([]byte, all)
	at := 0
	for _, p := range parts {
		at = begin(at)
		if at == all {
			break
		}
		n := min(len(p.data), block-at%block-head)
		at += copy(body[at:], fragment(p.kind, epoch, p.data[:n]))
	}
	return sealed(epoch, body, at)
}

// bodyOf are all sectors of such bytes, by that epoch.
func bodyOf(epoch uint64, b []byte) []api.Sec {
	body := make([]byte, all)
	copy(body, b)
	return sealed(epoch, body, all)
}

// parts are some by their Kinds' digits, each with other bytes.
func parts(kinds string) []part {
	var l []part
	for i, k := range kinds {
		l = append(l, part{int(k - '0'), mixed(i, i*7%23)})
	}
	return l
}

// P19.1: fragments in each order, up to six, told as a joiner takes them; also with fragments that are none.
func TestOrders(t *testing.T) {
	for count, kinds := range []int{1, 4, 16, 64, 256, 1024, 4096} {
		for n := range kinds {
			var l []part
			for i := range count {
				l = append(l, part{1 + n>>(2*i)&3, mixed(n, (n+7*i)%30)})
			}
			asRead(t, "any order", epochOf(n), byHand(epochOf(n), l))
			if count > 0 && n%3 == 0 {
				l[n%count].kind = []int{0, 5, 255, 129}[n%4]
				asRead(t, "with a fragment that is none", epochOf(n), byHand(epochOf(n), l))
			}
		}
	}
}

// P19.1: orders that no joiner takes, and such as are cut off, written out: how many records are told, and how many fragments these have.
func TestOrdersWrittenOut(t *testing.T) {
	for _, c := range []struct {
		kinds          string
		told, of, kind int
	}{
		{"", 0, 0, clean},
		{"1", 1, 1, clean},
		{"111", 3, 3, clean},
		{"24", 1, 2, clean},
		{"234", 1, 3, clean},
		{"23334", 1, 5, clean},
		{"124241", 4, 6, clean},
		{"2", 0, 0, torn},
		{"23", 0, 0, torn},
		{"3", 0, 0, torn},
		{"4", 0, 0, torn},
		{"31", 0, 0, torn},
		{"41", 0, 0, torn},
		{"22", 0, 0, torn},
		{"224", 0, 0, torn},
		{"2324", 0, 0, torn},
		{"21", 0, 0, torn},
		{"214", 0, 0, torn},
		{"231", 0, 0, torn},
		{"12", 1, 1, torn},
		{"13", 1, 1, torn},
		{"14", 1, 1, torn},
		{"141", 1, 1, torn},
		{"123", 1, 1, torn},
		{"1224", 1, 1, torn},
		{"2413", 2, 3, torn},
		{"2442", 1, 2, torn},
		{"24224", 1, 2, torn},
		{"0", 0, 0, torn},
		{"5", 0, 0, torn},
		{"101", 1, 1, torn},
		{"254", 0, 0, torn},
		{"204", 0, 0, torn},
	} {
		l := parts(c.kinds)
		at, first, had := 0, 0, []byte(nil)
		var want Result
		for _, p := range l[:c.of] {
			at = begin(at)
			if p.kind == 1 || p.kind == 2 {
				first, had = at, nil
			}
			had, at = append(had, p.data...), at+head+len(p.data)
			if p.kind == 1 || p.kind == 4 {
				want.Recs, want.Places, want.End = append(want.Recs, had), append(want.Places, first), at
			}
		}
		want.Kind = c.kind
		if len(want.Recs) != c.told {
			t.Fatalf("%q: %d records are to be told, not %d", c.kinds, len(want.Recs), c.told)
		}
		is(t, strconv.Quote(c.kinds), 6, byHand(6, l), want)
	}
}

// P19.1: a record of as many bytes as a joiner tells, and of one more, whatever its fragments: what comes behind a longer one isn't told either.
func TestLongest(t *testing.T) {
	for _, n := range []int{500, 511, 512, 513, 514, 700} {
		s := segmentOf(t, 5, anything, 30, n, 0)
		is(t, s.what(), 5, s.secs, s.wanted())
	}
	for _, lengths := range [][]int{
		{most, most, 117}, {most, most, 118}, {most, most, 119}, {most, most, most},
		{most, most, 118, 0}, {most, most, 118, 1}, {most, most, 117, 1}, {most, most, 117, 2}, {most, most, 0, 118}, {most, most, 0, 119},
		{0, 186, most, 129}, {0, 186, most, 130}, {0, 186, most, 128, 1}, {0, 186, most, 129, 1}, {0, 186, most, 129, 0, 0}, {0, 186, most, 130, 0, 0},
		{80, 106, most, 129}, {80, 106, most, 130}, {39, 145, most, 131}, {39, 145, most, 132},
	} {
		l := []part{{1, []byte("a")}}
		rec := []byte(nil)
		// The first block is for what comes ahead.
		l = append(l, part{1, mixed(1, most-head-1)})
		for i, n := range lengths {
			l = append(l, part{3, mixed(i, n)})
			rec = append(rec, mixed(i, n)...)
		}
		l[2].kind, l[len(l)-1].kind = 2, 4
		want := Result{Recs: [][]byte{l[0].data, l[1].data}, Places: []int{0, 12}, End: block, Kind: torn}
		secs := byHand(5, append(l, part{1, nil}))
		if len(rec) <= longest {
			behind := endOfParts(l)
			want.Recs, want.Places = append(want.Recs, rec, nil), append(want.Places, block, begin(behind))
			want.End, want.Kind = begin(behind)+head, clean
		}
		is(t, "as long as may be, and longer", 5, secs, want)
	}
}

// endOfParts is the place behind fragments that are laid by hand.
func endOfParts(l []part) int {
	at := 0
	for _, p := range l {
		at = begin(at) + head + len(p.data)
	}
	return at
}

// P19.1: a fragment of another epoch, in sectors that are stamped right, ends it; one that is the same in the lowest 32 bits doesn't.
func TestFragmentsEpoch(t *testing.T) {
	for _, epoch := range epochs() {
		for _, other := range append(epochs(), epoch+1, epoch-1, epoch^1<<31, epoch+1<<32, epoch^1<<63) {
			b := slices.Concat(fragment(1, epoch, []byte("a")), fragment(1, other, []byte("b")), fragment(1, epoch, []byte("c")))
			want := Result{Recs: [][]byte{[]byte("a")}, Places: []int{0}, End: 12, Kind: torn}
			if uint32(other) == uint32(epoch) {
				want = Result{Recs: [][]byte{[]byte("a"), []byte("b"), []byte("c")}, Places: []int{0, 12, 24}, End: 36, Kind: clean}
			}
			is(t, "another epoch's fragment", epoch, bodyOf(epoch, b)[:1], want)
		}
	}
}

// upTo are the bytes of records that lie from 0 up to a place, and no further.
func upTo(at int) []byte {
	b := slices.Repeat(fragment(1, 8, mixed(1, most)), at/block)
	if off := at % block; off > 0 {
		b = append(b, fragment(1, 8, mixed(2, off-head))...)
	}
	return b
}

// P19.1: a fragment over its block's end isn't told, though its sum goes with it.
func TestOverBlockEnd(t *testing.T) {
	for _, at := range []int{0, 11, 52, 104, 156, 180, 197, 208, 220, 364, 405, 416, 572, 624, 635, 780, 821} {
		for n := range most + 1 {
			b := append(upTo(at), fragment(1, 8, mixed(n, n))...)
			if len(b) > all {
				continue
			}
			l := bodyOf(8, b)
			asRead(t, "up to the block's end, and over it", 8, l)
			told := slices.Contains(Scan(8, l).Places, at)
			if over := at%block+head+n > block; told == over {
				t.Fatalf("a fragment of %d bytes at %d: told is %t", n, at, told)
			}
		}
	}
}

// P19.1: a head that tells of more bytes than a fragment, or its block, has, or of none of a fragment's Kinds, isn't told, though its sum goes with it.
func TestWrongHeads(t *testing.T) {
	for _, count := range []int{0, 1, 40, most, most + 1, 256, 300, 1 << 10, 1<<16 - 1} {
		for kind := range 256 {
			behind := append([]byte{byte(count), byte(count >> 8), byte(kind), 8, 0, 0, 0}, make([]byte, count)...)
			s := sum(behind)
			b := append([]byte{byte(s), byte(s >> 8), byte(s >> 16), byte(s >> 24)}, behind...)
			l := bodyOf(8, b)
			asRead(t, "a head", 8, l)
			if told := len(Scan(8, l).Recs) == 1; told != (kind == 1 && count <= most) {
				t.Fatalf("a head of the Kind %d and of %d bytes: told is %t", kind, count, told)
			}
		}
	}
}

// P19.1: what begins where no head has room in its sector isn't told there.
func TestNoRoomForHead(t *testing.T) {
	for n := range room {
		b := append(fragment(1, 8, mixed(n, n)), fragment(1, 8, []byte("next"))...)
		want := Result{Recs: [][]byte{mixed(n, n), []byte("next")}, Places: []int{0, head + n}, End: 2*head + n + 4, Kind: clean}
		if left := room - (head+n)%room; left < head {
			want = Result{Recs: want.Recs[:1], Places: []int{0}, End: head + n, Kind: torn}
		}
		l := bodyOf(8, b)
		is(t, "a record right behind", 8, l[:(len(b)+room-1)/room], want)
	}
}
