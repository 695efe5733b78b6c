package scan

import (
	"math"
	"slices"
	"testing"

	"strandline/api"
)

// A sector's, a body's and a fragment's numbers, as they are told in no code but here.
const (
	sector  = 64
	ahead   = 12
	room    = 52
	sectors = 16
	block   = 208
	all     = 832
	head    = 11
	most    = 197 // bytes of a record that one fragment has at most
	longest = 512 // and a record that a joiner tells
	whole   = 788 // and a segment
	clean   = 1
	torn    = 2
)

// epochs are the bounds of their type's bits, and some between; some are the same in their lowest 32 bits.
func epochs() []uint64 {
	return []uint64{3, 0, 1, 1<<32 - 1, 1 << 32, 1<<64 - 1, 1<<32 + 1, 2, 1<<32 + 3, 255, 256, 1<<31 - 1, 1 << 31, 1<<33 - 1, 1<<63 - 1, 1 << 63, 1<<63 + 3, 0x0102030405060708}
}

// epochOf is one of the epochs, which goes by a number.
func epochOf(i int) uint64 {
	return epochs()[i%len(epochs())]
}

// ends are all places, those near them below 0 and above SegRoom, and some far beyond, which are the same as a place in fewer bits.
func ends() []int {
	l := []int{
		math.MinInt, math.MinInt + 1, math.MinInt + block, -1<<32 - 1, -1 << 32, -1<<32 + 60, math.MinInt32 - 1, math.MinInt32, -65536 + 60, -2 * all, -all - 1, -all, -block, -room, -head,
		2*all - 1, 2 * all, 65536, 65536 + 60, math.MaxInt32, math.MaxInt32 + 1, 1 << 32, 1<<32 + 60, 1<<32 + all, math.MaxInt - all, math.MaxInt - head, math.MaxInt - 1, math.MaxInt,
	}
	for end := -room; end <= all+room; end++ {
		l = append(l, end)
	}
	return l
}

// scatter tells bytes that look like any, the same ones in each run.
func scatter(count int) []byte {
	var l []byte
	n := uint64(88172645463325252)
	for range count {
		n ^= n << 13
		n ^= n >> 7
		n ^= n << 17
		l = append(l, byte(n>>32))
	}
	return l
}

// mixed are so many bytes, others for each which.
func mixed(which, count int) []byte {
	return scatter(count + 7*(which%50))[7*(which%50):]
}

// many is a length, so many times.
func many(count, n int) []int {
	return slices.Repeat([]int{n}, count)
}

// filling are as many times that length as a segment has room for.
func filling(n int) []int {
	var l []int
	for at := 0; ; {
		_, behind, ok := pieces(at, n)
		if !ok {
			return l
		}
		l, at = append(l, n), behind
	}
}

// sum is the masked sum of b: layer 3's words, bit by bit.
func sum(b []byte) uint32 {
	s := ^uint32(0)
	for _, x := range b {
		s ^= uint32(x)
		for range 8 {
			if s&1 == 1 {
				s = s>>1 ^ 0x82f63b78
			} else {
				s >>= 1
			}
		}
	}
	s = ^s
	return s>>15 + s<<17 + 0xa282ead8
}

// fragment is a fragment's bytes: layer 13's words, byte by byte.
func fragment(kind int, epoch uint64, data []byte) []byte {
	behind := []byte{byte(len(data)), byte(len(data) >> 8), byte(kind), byte(epoch), byte(epoch >> 8), byte(epoch >> 16), byte(epoch >> 24)}
	behind = append(behind, data...)
	s := sum(behind)
	return append([]byte{byte(s), byte(s >> 8), byte(s >> 16), byte(s >> 24)}, behind...)
}

// begin is where a fragment begins: layer 7's words, place by place.
func begin(at int) int {
	for at < all && room-at%room < head {
		at++
	}
	return at
}

// piece is where one begins, its Kind, and which of the record's bytes it has.
type piece struct{ at, kind, from, to int }

// pieces are those of a record of n bytes, and the place behind the last one: layer 14's words, byte by byte.
func pieces(at, n int) ([]piece, int, bool) {
	var l []piece
	had := 0
	for len(l) == 0 || had < n {
		p := piece{at: begin(at), kind: 3, from: had}
		if p.at == all {
			return nil, 0, false
		}
		at = p.at + head
		for had < n && at%block != 0 {
			at++
			had++
		}
		p.to = had
		l = append(l, p)
	}
	l[0].kind = 2
	l[len(l)-1].kind = 4
	if len(l) == 1 {
		l[0].kind = 1
	}
	return l, at, true
}

// segment is one with the records that were laid in it, and what they make: the body, the places of their first pieces, the places behind their last ones, and the sectors.
type segment struct {
	epoch  uint64
	recs   [][]byte
	body   []byte
	places []int
	behind []int
	secs   []api.Sec
}

// lay is a segment with these records: layer 17's words, record by record.
func lay(t *testing.T, epoch uint64, recs [][]byte) segment {
	t.Helper()
	s := segment{epoch: epoch, recs: recs, body: make([]byte, all)}
	for _, data := range recs {
		l, behind, ok := pieces(s.end(), len(data))
		if !ok {
			t.Fatalf("a segment has no room for records of the lengths %v", lengthsOf(recs))
		}
		for _, p := range l {
			copy(s.body[p.at:], fragment(p.kind, epoch, data[p.from:p.to]))
		}
		s.places, s.behind = append(s.places, l[0].at), append(s.behind, behind)
	}
	s.secs = sealed(epoch, s.body, s.end())
	return s
}

// end is the place behind the last record.
func (s segment) end() int {
	return s.endOf(len(s.behind))
}

// endOf is the place behind the first n records.
func (s segment) endOf(n int) int {
	if n == 0 {
		return 0
	}
	return s.behind[n-1]
}

// told is what is told, if just the first n records are.
func (s segment) told(n, kind int) Result {
	return Result{Recs: s.recs[:n], Places: s.places[:n], End: s.endOf(n), Kind: kind}
}

// stampOf are the first bytes of a sector that is stamped so: layer 6's words.
func stampOf(epoch uint64, i int) []byte {
	var b []byte
	for k := range 8 {
		b = append(b, byte(epoch>>(8*k)))
	}
	for k := range 4 {
		b = append(b, byte(i>>(8*k)))
	}
	return b
}

// stamped is a sector with that stamp, and this room.
func stamped(epoch uint64, i int, room []byte) api.Sec {
	var s api.Sec
	copy(s[:], stampOf(epoch, i))
	copy(s[ahead:], room)
	return s
}

// sealed are the sectors of a body: those that have a place below end, the others empty.
func sealed(epoch uint64, body []byte, end int) []api.Sec {
	l := make([]api.Sec, sectors)
	for i := range l {
		if room*i < end {
			l[i] = stamped(epoch, i, body[room*i:room*i+room])
		}
	}
	return l
}

// slowScan is what the chapter says of Scan, byte by byte.
func slowScan(epoch uint64, l []api.Sec) Result {
	body, is := make([]byte, all), make([]bool, sectors)
	for i := range sectors {
		if i < len(l) && slices.Equal(l[i][:ahead], stampOf(epoch, i)) {
			is[i] = true
			copy(body[room*i:], l[i][ahead:])
		}
	}
	r := Result{Kind: clean}
	at, first := 0, -1
	var had []byte
	for {
		at = begin(at)
		kind, data := slowFragment(epoch, body, is, at)
		if kind == 0 || (first < 0) != (kind <= 2) || len(had)+len(data) > longest {
			break
		}
		if first < 0 {
			first = at
		}
		at += head + len(data)
		had = append(had, data...)
		if kind == 1 || kind == 4 {
			r.Recs, r.Places, r.End = append(r.Recs, had), append(r.Places, first), at
			first, had = -1, nil
		}
	}
	for at := r.End; at < all; at++ {
		if body[at] != 0 {
			r.Kind = torn
		}
	}
	for i := range min(len(l), sectors) {
		if room*i >= r.End && l[i] != (api.Sec{}) {
			r.Kind = torn
		}
	}
	return r
}

// slowFragment is the Kind and the Data of the fragment at that place, all of whose sectors are stamped; 0, if there is none.
func slowFragment(epoch uint64, body []byte, is []bool, at int) (int, []byte) {
	if at == all || !is[at/room] {
		return 0, nil
	}
	b := body[at : at-at%block+block]
	count, kind := int(b[4])+256*int(b[5]), int(b[6])
	if kind < 1 || kind > 4 || count > most || head+count > len(b) {
		return 0, nil
	}
	data := b[head : head+count]
	if !slices.Equal(fragment(kind, epoch, data), b[:head+count]) {
		return 0, nil
	}
	for p := at; p < at+head+count; p++ {
		if !is[p/room] {
			return 0, nil
		}
	}
	return kind, data
}

// slowRest is what the chapter says of Rest, byte by byte.
func slowRest(l []api.Sec, end int) bool {
	end = min(max(end, 0), all)
	for i := range min(len(l), sectors) {
		for k, x := range l[i] {
			lies := room*i < end && end < room*i+room
			if x != 0 && (room*i >= end || lies && k >= ahead && room*i+k-ahead >= end) {
				return false
			}
		}
	}
	return true
}

// is fails, if Scan answers anything else than that.
func is(t *testing.T, what string, epoch uint64, l []api.Sec, want Result) {
	t.Helper()
	if got := Scan(epoch, l); !same(got, want) {
		t.Fatalf("%s: Scan by %d of %d sectors tells %s, not %s", what, epoch, len(l), text(got), text(want))
	}
}

// asRead fails, if Scan answers anything else than what the chapter says.
func asRead(t *testing.T, what string, epoch uint64, l []api.Sec) {
	t.Helper()
	is(t, what, epoch, l, slowScan(epoch, l))
}

func same(a, b Result) bool {
	return sameRecs(a.Recs, b.Recs) && slices.Equal(a.Places, b.Places) && a.End == b.End && a.Kind == b.Kind
}

func sameRecs(a, b [][]byte) bool {
	return slices.EqualFunc(a, b, slices.Equal[[]byte])
}

// lengthsOf are the lengths of l's records.
func lengthsOf(l [][]byte) []int {
	var n []int
	for _, data := range l {
		n = append(n, len(data))
	}
	return n
}
