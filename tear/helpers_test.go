package tear

import (
	"fmt"
	"slices"
	"testing"

	"strandline/api"
)

// A sector's, a body's and a fragment's numbers, as they are told in no code but here.
const (
	sector  = 64
	ahead   = 12
	room    = 52
	sectors = 16
	block   = 208
	all     = 832
	head    = 11
	most    = 197 // bytes of a record that one fragment has at most
	longest = 512 // and a record that a joiner tells
	whole   = 788 // and a segment
)

// epochs are the bounds of their type's bits, and some between; some are the same in their lowest 32 bits.
func epochs() []uint64 {
	return []uint64{3, 0, 1, 1<<32 - 1, 1 << 32, 1<<64 - 1, 1<<32 + 1, 2, 1<<32 + 3, 255, 256, 1<<31 - 1, 1 << 31, 1<<33 - 1, 1<<63 - 1, 1 << 63, 1<<63 + 3, 0x0102030405060708}
}

// epochOf is one of the epochs, which goes by a number.
func epochOf(i int) uint64 {
	return epochs()[i%len(epochs())]
}

// scatter tells bytes that look like any, the same ones in each run.
func scatter(count int) []byte {
	var l []byte
	n := uint64(88172645463325252)
	for range count {
		n ^= n << 13
		n ^= n >> 7
		n ^= n << 17
		l = append(l, byte(n>>32))
	}
	return l
}

// mixed are so many bytes, others for each which.
func mixed(which, count int) []byte {
	return scatter(count + 7*(which%50))[7*(which%50):]
}

// many is a length, so many times.
func many(count, n int) []int {
	return slices.Repeat([]int{n}, count)
}

// filling are as many times that length as a segment has room for.
func filling(n int) []int {
	var l []int
	for at := 0; ; {
		_, behind, ok := pieces(at, n)
		if !ok {
			return l
		}
		l, at = append(l, n), behind
	}
}

// state is what layer 3's steps come to behind b, bit by bit.
func state(b []byte) uint32 {
	s := ^uint32(0)
	for _, x := range b {
		s ^= uint32(x)
		for range 8 {
			if s&1 == 1 {
				s = s>>1 ^ 0x82f63b78
			} else {
				s >>= 1
			}
		}
	}
	return s
}

// sum is the masked sum of b: layer 3's words.
func sum(b []byte) uint32 {
	s := ^state(b)
	return s>>15 + s<<17 + 0xa282ead8
}

// summed are the bytes of a fragment behind its sum: layer 13's words, byte by byte.
func summed(kind int, epoch uint64, data []byte) []byte {
	behind := []byte{byte(len(data)), byte(len(data) >> 8), byte(kind), byte(epoch), byte(epoch >> 8), byte(epoch >> 16), byte(epoch >> 24)}
	return append(behind, data...)
}

// fragment is a fragment's bytes.
func fragment(kind int, epoch uint64, data []byte) []byte {
	behind := summed(kind, epoch, data)
	s := sum(behind)
	return append([]byte{byte(s), byte(s >> 8), byte(s >> 16), byte(s >> 24)}, behind...)
}

// begin is where a fragment begins: layer 7's words, place by place.
func begin(at int) int {
	for at < all && room-at%room < head {
		at++
	}
	return at
}

// piece is where one begins, its Kind, and which of the record's bytes it has.
type piece struct{ at, kind, from, to int }

// pieces are those of a record of n bytes, and the place behind the last one: layer 14's words, byte by byte.
func pieces(at, n int) ([]piece, int, bool) {
	var l []piece
	had := 0
	for len(l) == 0 || had < n {
		p := piece{at: begin(at), kind: 3, from: had}
		if p.at == all {
			return nil, 0, false
		}
		at = p.at + head
		for had < n && at%block != 0 {
			at++
			had++
		}
		p.to = had
		l = append(l, p)
	}
	l[0].kind = 2
	l[len(l)-1].kind = 4
	if len(l) == 1 {
		l[0].kind = 1
	}
	return l, at, true
}

// meant is a fragment that records have in a segment: its place, its Kind, its Data and its bytes.
type meant struct {
	at, kind int
	data     []byte
	bytes    []byte
}

// meantOf are the fragments of records, and the places behind each record's last one; false, if they don't fit.
func meantOf(epoch uint64, recs [][]byte) ([]meant, []int, bool) {
	var l []meant
	var behind []int
	at := 0
	for _, data := range recs {
		parts, end, ok := pieces(at, len(data))
		if !ok {
			return nil, nil, false
		}
		for _, p := range parts {
			l = append(l, meant{p.at, p.kind, data[p.from:p.to], fragment(p.kind, epoch, data[p.from:p.to])})
		}
		behind, at = append(behind, end), end
	}
	return l, behind, true
}

// segment is one with the records that were laid in it, and what they make: the body, the fragments, the places behind each record's last one, and the sectors.
type segment struct {
	epoch  uint64
	recs   [][]byte
	body   []byte
	meant  []meant
	behind []int
	secs   []api.Sec
}

// lay is a segment with these records: layer 17's words, fragment by fragment.
func lay(t *testing.T, epoch uint64, recs [][]byte) segment {
	t.Helper()
	l, behind, ok := meantOf(epoch, recs)
	if !ok {
		t.Fatalf("a segment has no room for records of the lengths %v", lengthsOf(recs))
	}
	s := segment{epoch: epoch, recs: recs, body: make([]byte, all), meant: l, behind: behind}
	for _, m := range l {
		copy(s.body[m.at:], m.bytes)
	}
	s.secs = sealed(epoch, s.body, s.end())
	return s
}

// end is the place behind the last record.
func (s segment) end() int {
	return s.endOf(len(s.behind))
}

// endOf is the place behind the first n records.
func (s segment) endOf(n int) int {
	if n == 0 {
		return 0
	}
	return s.behind[n-1]
}

// places are those of the fragments.
func (s segment) places() []int {
	var l []int
	for _, m := range s.meant {
		l = append(l, m.at)
	}
	return l
}

// what names a segment in a test's words.
func (s segment) what() string {
	return fmt.Sprintf("of the epoch %d, of the lengths %v", s.epoch, lengthsOf(s.recs))
}

// stampOf are the first bytes of a sector that is stamped so: layer 6's words.
func stampOf(epoch uint64, i int) []byte {
	var b []byte
	for k := range 8 {
		b = append(b, byte(epoch>>(8*k)))
	}
	for k := range 4 {
		b = append(b, byte(i>>(8*k)))
	}
	return b
}

// stamped is a sector with that stamp, and this room.
func stamped(epoch uint64, i int, room []byte) api.Sec {
	var s api.Sec
	copy(s[:], stampOf(epoch, i))
	copy(s[ahead:], room)
	return s
}

// sealed are the sectors of a body: those that have a place below end, the others empty.
func sealed(epoch uint64, body []byte, end int) []api.Sec {
	l := make([]api.Sec, sectors)
	for i := range l {
		if room*i < end {
			l[i] = stamped(epoch, i, body[room*i:room*i+room])
		}
	}
	return l
}

// slowFlat is the body of sectors, and which of them are stamped: layer 16's words.
func slowFlat(epoch uint64, l []api.Sec) ([]byte, []bool) {
	body, is := make([]byte, all), make([]bool, sectors)
	for i := range min(len(l), sectors) {
		if slices.Equal(l[i][:ahead], stampOf(epoch, i)) {
			is[i] = true
			copy(body[room*i:], l[i][ahead:])
		}
	}
	return body, is
}

// slowTold are the bytes of the fragment that scanning tells at that place: it is right, it ends in its block, and all its sectors are stamped; none, if there is none.
func slowTold(epoch uint64, body []byte, is []bool, at int) []byte {
	b := body[at : at-at%block+block]
	if len(b) < head {
		return nil
	}
	count, kind := int(b[4])+256*int(b[5]), int(b[6])
	if kind < 1 || kind > 4 || count > most || head+count > len(b) {
		return nil
	}
	b = b[:head+count]
	if !slices.Equal(fragment(kind, epoch, b[head:]), b) {
		return nil
	}
	for p := at; p < at+len(b); p++ {
		if !is[p/room] {
			return nil
		}
	}
	return b
}

// slowClashes is what the chapter says of Clashes, and whether the records fit.
func slowClashes(epoch uint64, recs [][]byte, now []api.Sec) ([]int, bool) {
	l, _, fit := meantOf(epoch, recs)
	body, is := slowFlat(epoch, now)
	var clashes []int
	for _, m := range l {
		if told := slowTold(epoch, body, is, m.at); told != nil && !slices.Equal(told, m.bytes) {
			clashes = append(clashes, m.at)
		}
	}
	return clashes, fit
}

// clash fails, if Clashes tells anything else than these places, or Free anything else than that there are none.
func clash(t *testing.T, what string, epoch uint64, recs [][]byte, now []api.Sec, want ...int) {
	t.Helper()
	if got := Clashes(epoch, recs, now); !slices.Equal(got, want) {
		t.Fatalf("%s: Clashes by %d of %d sectors tells %v, not %v", what, epoch, len(now), got, want)
	}
	if got := Free(epoch, recs, now); got != (len(want) == 0) {
		t.Fatalf("%s: Free by %d of %d sectors tells %t, but %v clash", what, epoch, len(now), got, want)
	}
}

// clash is clash of a segment's records.
func (s segment) clash(t *testing.T, what string, now []api.Sec, want ...int) {
	t.Helper()
	clash(t, s.what()+", "+what, s.epoch, s.recs, now, want...)
}

// asRead fails, if Clashes or Free answer anything else than what the chapter says, and tells the places that clash.
func asRead(t *testing.T, what string, epoch uint64, recs [][]byte, now []api.Sec) []int {
	t.Helper()
	want, fit := slowClashes(epoch, recs, now)
	if !fit {
		refused(t, what, epoch, recs, now)
		return nil
	}
	clash(t, what, epoch, recs, now, want...)
	return want
}

// refused fails, if Free or Clashes tell anything else than that the records don't fit.
func refused(t *testing.T, what string, epoch uint64, recs [][]byte, now []api.Sec) {
	t.Helper()
	if free, l := Free(epoch, recs, now), Clashes(epoch, recs, now); free || len(l) > 0 {
		t.Fatalf("%s, which don't fit: Free by %d of %d sectors tells %t, Clashes %v", what, epoch, len(now), free, l)
	}
}

// lengthsOf are the lengths of l's records.
func lengthsOf(l [][]byte) []int {
	var n []int
	for _, data := range l {
		n = append(n, len(data))
	}
	return n
}
