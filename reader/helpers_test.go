package reader

import (
	"fmt"
	"math"
	"slices"
	"testing"

	"strandline/api"
	"strandline/scan"
)

// A sector's, a body's, a fragment's and a segment's numbers, as they are told in no code but here.
const (
	sector  = 64
	ahead   = 12
	room    = 52
	sectors = 16
	block   = 208
	all     = 832
	head    = 11
	most    = 197 // bytes of a record that one fragment has at most
	longest = 512 // and a record that is told
	largest = 788 // and one that is laid in a segment
	whole   = 17  // sectors of a segment
	mostLSN = 2147483647
	clean   = 1
	torn    = 2
)

// epochs are the bounds of their type's bits, and some between; some are the same in their lowest 32 bits.
func epochs() []uint64 {
	return []uint64{3, 0, 1, 1<<32 - 1, 1 << 32, math.MaxUint64, 1<<32 + 1, 2, 1<<32 + 3, 255, 256, 1<<31 - 1, 1 << 31, 1<<33 - 1, 1<<63 - 1, 1 << 63, 1<<63 + 3, 0x0102030405060708}
}

// epochOf is one of the epochs, which goes by a number.
func epochOf(i int) uint64 {
	return epochs()[i%len(epochs())]
}

// beyond are places below 0 and above SegRoom, some the same as a place in fewer bits.
func beyond() []int {
	l := []int{
		math.MinInt, math.MinInt + 1, math.MinInt + 60, math.MinInt + all, -1<<32 - 1, -1 << 32, -1<<32 + 60, math.MinInt32 - 1, math.MinInt32, -65536, -65536 + 60, -256, -256 + 60, -2 * all, -all - 1, -all, -block,
		2*all - 1, 2 * all, 1024, 65536, 65536 + 60, math.MaxInt32, math.MaxInt32 + 1, 1 << 32, 1<<32 + 60, 1<<32 + all, math.MaxInt - all, math.MaxInt - block, math.MaxInt - head, math.MaxInt - 1, math.MaxInt,
	}
	for n := 1; n <= room+1; n++ {
		l = append(l, -n, all+n)
	}
	return l
}

// places are all that there are, and those beyond.
func places() []int {
	l := beyond()
	for at := range all + 1 {
		l = append(l, at)
	}
	return l
}

// scatter tells bytes that look like any, the same ones in each run.
func scatter(count int) []byte {
	var l []byte
	n := uint64(88172645463325252)
	for range count {
		n ^= n << 13
		n ^= n >> 7
		n ^= n << 17
		l = append(l, byte(n>>32))
	}
	return l
}

// mixed are so many bytes, others for each which.
func mixed(which, count int) []byte {
	return scatter(count + 7*(which%50))[7*(which%50):]
}

// many is a length, so many times.
func many(count, n int) []int {
	return slices.Repeat([]int{n}, count)
}

// filling are as many times that length as a segment has room for.
func filling(n int) []int {
	var l []int
	for at := 0; ; {
		_, behind, ok := pieces(at, n)
		if !ok {
			return l
		}
		l, at = append(l, n), behind
	}
}

// stone is a segment with the records that were laid in it, and what they make: the body, the places of their first pieces, the places behind their last ones, and the sectors.
type stone struct {
	epoch  uint64
	recs   [][]byte
	body   []byte
	places []int
	behind []int
	secs   []api.Sec
}

// lay is a segment with these records: layer 17's words, record by record.
func lay(t *testing.T, epoch uint64, recs [][]byte) stone {
	t.Helper()
	s := stone{epoch: epoch, recs: recs, body: make([]byte, all)}
	for _, data := range recs {
		l, behind, ok := pieces(s.end(), len(data))
		if !ok {
			t.Fatalf("a segment has no room for records of the lengths %v", lengthsOf(recs))
		}
		for _, p := range l {
			copy(s.body[p.at:], fragment(p.kind, epoch, data[p.from:p.to]))
		}
		s.places, s.behind = append(s.places, l[0].at), append(s.behind, behind)
	}
	s.secs = sealed(epoch, s.body, s.end())
	return s
}

// end is the place behind the last record.
func (s stone) end() int {
	if len(s.behind) == 0 {
		return 0
	}
	return s.behind[len(s.behind)-1]
}

// String names a segment in a test's words.
func (s stone) String() string {
	return fmt.Sprintf("of the epoch %d, of the lengths %v", s.epoch, lengthsOf(s.recs))
}

// look is what the bytes of a segment's records look like.
type look int

const (
	anything look = iota
	zero
	full
	rights // where a fragment may begin there is a right one, that has a record
	firsts // and where one that begins a record
	stamps // sectors that are stamped right
	looks
)

// fake is a body of bytes that look so.
func fake(epoch uint64, k look, which int) []byte {
	var b []byte
	for len(b) < all {
		switch k {
		case anything:
			b = append(b, mixed(which, all)...)
		case zero:
			b = append(b, 0)
		case full:
			b = append(b, 255)
		case stamps:
			s := stamped(epoch, len(b)/sector, slices.Repeat(fragment(1, epoch, nil), 4))
			b = append(b, s[:]...)
		default:
			kind := 1 + int(k-rights)
			b = append(b, slices.Repeat(fragment(kind, epoch, nil), 4)...)
			b = append(b, make([]byte, room-4*head)...)
		}
	}
	return b[:all]
}

// stoneOf is a segment with records of these lengths, whose bytes are those of a fake body at the places at which they are laid.
func stoneOf(t *testing.T, epoch uint64, k look, lengths ...int) stone {
	t.Helper()
	var l [][]byte
	at := 0
	for i, n := range lengths {
		b := fake(epoch, k, i)
		parts, behind, ok := pieces(at, n)
		if !ok {
			t.Fatalf("a segment has no room for records of the lengths %v", lengths)
		}
		data := []byte{}
		for _, p := range parts {
			data = append(data, b[p.at+head:p.at+head+p.to-p.from]...)
		}
		l, at = append(l, data), behind
	}
	return lay(t, epoch, l)
}

// lists are lengths of records that a segment has room for, at the bounds of fragments, sectors, blocks and segments: some are full to the last byte.
func lists() [][]int {
	l := [][]int{
		{}, {0}, {1}, {10, 10}, {41}, {41, 0}, {41, 41, 41}, {30}, {30, 0}, {31}, {31, 0}, {92, 1}, {93, 7}, {94, 7},
		{185, 9}, {186, 0}, {186, 1}, {186, 300, 4}, {187, 2}, {196, 20}, {most}, {most, 0}, {198}, {198, 5}, {393, 3}, {394}, {394, 394}, {395, 20},
		{0, 0, 0, 0, 41, 0}, {511}, {longest}, {longest, 265}, {longest, 200, 20}, {300, 20, 300}, {777}, {777, 0}, {largest}, {513, 10}, {20, 513, 20},
		many(64, 0), many(63, 0), many(16, 41), many(15, 41), many(4, most), many(8, 93), {most, most, most, most - 1},
	}
	for _, n := range []int{1, 5, 10, 17, 29, 60, 100, 180, 250, 350} {
		l = append(l, filling(n))
	}
	return l
}

// anyLists are lists of lengths that look like any, most of them short, as far as a segment has room for them.
func anyLists(count int) [][]int {
	var l [][]int
	numbers := scatter(64 * count)
	for i := range count {
		var lengths []int
		at := 0
		for _, n := range numbers[64*i : 64*i+1+i%60] {
			_, behind, ok := pieces(at, int(n)>>(i%8)*(1+i%3))
			if !ok {
				break
			}
			lengths, at = append(lengths, int(n)>>(i%8)*(1+i%3)), behind
		}
		l = append(l, lengths)
	}
	return l
}

// stones are segments of all lists, and of some lists that look like any, each with another epoch, and bytes that look otherwise.
func stones(t *testing.T) []stone {
	t.Helper()
	var l []stone
	for i, lengths := range append(lists(), anyLists(40)...) {
		l = append(l, stoneOf(t, epochOf(i), look(i)%looks, lengths...))
	}
	return l
}

// part is a fragment that is laid by hand: its Kind, and its Data.
type part struct {
	kind int
	data []byte
}

// byHand are the sectors of fragments that are laid one behind the other, the first one at a place itself; each is cut off at the body's end.
func byHand(epoch uint64, from int, parts []part) []api.Sec {
	body := make([]byte, all)
	at := from
	for i, p := range parts {
		if i > 0 {
			at = begin(at)
		}
		at += copy(body[at:], fragment(p.kind, epoch, p.data))
	}
	return sealed(epoch, body, all)
}

// with is a copy of l with another sector at i.
func with(l []api.Sec, i int, s api.Sec) []api.Sec {
	l = slices.Clone(l)
	l[i] = s
	return l
}

// changed is a copy of l with other bits at a place of the body.
func changed(l []api.Sec, at int, bits byte) []api.Sec {
	s := l[at/room]
	s[ahead+at%room] ^= bits
	return with(l, at/room, s)
}

// stands fails, if From answers anything else than that record, and the place behind it.
func stands(t *testing.T, what any, epoch uint64, l []api.Sec, at int, rec []byte, behind int) {
	t.Helper()
	got, then, ok := From(epoch, l, at)
	if !ok || then != behind || !slices.Equal(got, rec) {
		t.Fatalf("%v: From by %d of %d sectors at %d: %d bytes, %d, %t, not %d bytes, %d", what, epoch, len(l), at, len(got), then, ok, len(rec), behind)
	}
}

// lacks fails, if From answers anything but that there is none.
func lacks(t *testing.T, what any, epoch uint64, l []api.Sec, at int) {
	t.Helper()
	got, then, ok := From(epoch, l, at)
	if ok || then != 0 || len(got) != 0 {
		t.Fatalf("%v: From by %d of %d sectors at %d: %d bytes, %d, %t, though none stands there", what, epoch, len(l), at, len(got), then, ok)
	}
}

// asRead fails, if From answers anything else at a place than what the chapter says; it tells whether a record stands there.
func asRead(t *testing.T, what any, epoch uint64, l []api.Sec, at int) bool {
	t.Helper()
	rec, behind, ok := slowFrom(epoch, l, at)
	if ok {
		stands(t, what, epoch, l, at, rec, behind)
	} else {
		lacks(t, what, epoch, l, at)
	}
	return ok
}

// everywhere fails, if From answers anything else at some place than what the chapter says; it tells the places at which a record stands.
func everywhere(t *testing.T, what any, epoch uint64, l []api.Sec) []int {
	t.Helper()
	var found []int
	for _, at := range places() {
		if asRead(t, what, epoch, l, at) {
			found = append(found, at)
		}
	}
	return found
}

// sameResult tells whether two results are the same.
func sameResult(a, b scan.Result) bool {
	return slices.EqualFunc(a.Recs, b.Recs, slices.Equal[[]byte]) && slices.Equal(a.Places, b.Places) && a.End == b.End && a.Kind == b.Kind
}

// text is a result in a test's words.
func text(r scan.Result) string {
	return fmt.Sprintf("%d records of the lengths %v at %v, up to %d, %d", len(r.Recs), lengthsOf(r.Recs), r.Places, r.End, r.Kind)
}

// lengthsOf are the lengths of l's records.
func lengthsOf(l [][]byte) []int {
	var n []int
	for _, data := range l {
		n = append(n, len(data))
	}
	return n
}

// fine ends the test, if there is an error.
func fine(t *testing.T, e api.Errno) {
	t.Helper()
	if e != api.OK {
		t.Fatalf("error %d", e)
	}
}
