package image

import (
	"fmt"
	"math"
	"slices"
	"testing"

	"strandline/api"
)

// A sector's, a body's and a fragment's numbers, as they are told in no code but here.
const (
	sector  = 64
	ahead   = 12
	room    = 52
	sectors = 16
	block   = 208
	all     = 832
	head    = 11
	most    = 197 // bytes of a record that one piece, or one block, has at most
	whole   = 788 // and a segment
)

// epochs are the bounds of their type's bits, and some between; some are the same in their lowest 32 bits.
func epochs() []uint64 {
	return []uint64{0, 1, 1<<32 - 1, 1 << 32, 1<<64 - 1, 1<<32 + 1, 2, 3, 255, 256, 1<<31 - 1, 1 << 31, 1<<33 - 1, 1<<63 - 1, 1 << 63, 1<<63 + 3, 0x0102030405060708}
}

// lengths are those of records at the bounds of pieces, sectors, blocks and segments, all of which a segment has room for.
func lengths() []int {
	return []int{0, 1, 2, 10, 29, 30, 31, 40, 41, 42, 92, 93, 94, 185, 186, 187, 196, 197, 198, 207, 208, 209, 393, 394, 395, 500, 511, 512, 513, 590, 591, 592, 786, 787, 788}
}

// tooLong are lengths for which no segment has room, some the same as a small one in fewer bits.
func tooLong() []int {
	return []int{789, 790, 821, 831, 832, 833, 1024, 5000, 65536, 65536 + 5, 1 << 20}
}

// beyond are places below 0 and above SegRoom, some the same as a place in fewer bits.
func beyond() []int {
	return []int{
		math.MinInt, math.MinInt + 1, math.MinInt + head, math.MinInt + block, -1<<32 - 1, -1 << 32, -1<<32 + most, math.MinInt32 - 1, math.MinInt32, -65536 + 60, -all - 1, -all, -all + 1, -256 + 60, -block, -room, -head, -2, -1,
		all + 1, all + 2, all + head, all + block, 2*all - 1, 2 * all, 65536, 65536 + 60, math.MaxInt32, math.MaxInt32 + 1, 1 << 32, 1<<32 + 60, 1<<32 + all, math.MaxInt - all, math.MaxInt - head, math.MaxInt - 1, math.MaxInt,
	}
}

// edges are the places at and beside each end of a sector, and so of a block, those where a head has just room, and those beyond.
func edges() []int {
	l := beyond()
	for at := range all + 1 {
		if off := at % room; off < 3 || off > 38 {
			l = append(l, at)
		}
	}
	return l
}

// places are all from 0 to SegRoom.
func places() []int {
	var l []int
	for at := range all + 1 {
		l = append(l, at)
	}
	return l
}

// scatter tells bytes that look like any, the same ones in each run.
func scatter(count int) []byte {
	var l []byte
	n := uint64(88172645463325252)
	for range count {
		n ^= n << 13
		n ^= n >> 7
		n ^= n << 17
		l = append(l, byte(n>>32))
	}
	return l
}

// mixed are so many bytes, others for each which.
func mixed(which, count int) []byte {
	return scatter(count + 7*(which%50))[7*(which%50):]
}

// roomy is b, with bytes behind its end that are not its own.
func roomy(b []byte) []byte {
	return append(slices.Clone(b), slices.Repeat([]byte{171}, 2*all)...)[:len(b)]
}

// bodies are nil, none, and such that lack bytes, have just enough, and have more: with any bytes, with bytes 0, with bytes 255, all with room behind their end.
func bodies() [][]byte {
	l := [][]byte{nil, {}, roomy(nil), roomy(make([]byte, all)), roomy(slices.Repeat([]byte{255}, all)), slices.Repeat([]byte{255}, all+1)}
	for i, n := range []int{1, 10, 11, 12, 51, 52, 53, 207, 208, 209, 415, 416, 800, 831, 832, 833, 884, 1664, 5000} {
		l = append(l, roomy(mixed(i, n)))
	}
	return l
}

// recordsOf are records of these lengths, with bytes that look like any, each with room behind its end; those of no bytes are nil, empty, and empty with room, in turn.
func recordsOf(lengths ...int) [][]byte {
	l := [][]byte{}
	for i, n := range lengths {
		data := roomy(mixed(i, n))
		switch {
		case n == 0 && i%3 == 0:
			data = nil
		case n == 0 && i%3 == 1:
			data = []byte{}
		}
		l = append(l, data)
	}
	return l
}

// many is a length, so many times.
func many(count, n int) []int {
	return slices.Repeat([]int{n}, count)
}

// lists are lists of records of many lengths, some of which a segment has no room for.
func lists() [][][]byte {
	l := [][][]byte{nil, {}, {nil}, {{}}, {nil, {1}, nil, {}, {2, 3}, nil}, recordsOf(most, most, most, most), recordsOf(most, most, most, most, 0)}
	for _, n := range append(lengths(), tooLong()...) {
		l = append(l, recordsOf(n), recordsOf(0, n), recordsOf(n, 0), recordsOf(10, n, 30), recordsOf(30, 0, n), recordsOf(many(90, n)...))
	}
	return append(l, anyLists(300)...)
}

// anyLists are lists of records whose lengths look like any, most of them short.
func anyLists(count int) [][][]byte {
	var l [][][]byte
	numbers := scatter(64 * count)
	for i := range count {
		var lengths []int
		for _, n := range numbers[64*i : 64*i+1+i%60] {
			lengths = append(lengths, int(n)>>(i%8))
		}
		l = append(l, recordsOf(lengths...))
	}
	return l
}

// sum is the masked sum of b: layer 3's words, bit by bit.
func sum(b []byte) uint32 {
	s := ^uint32(0)
	for _, x := range b {
		s ^= uint32(x)
		for range 8 {
			if s&1 == 1 {
				s = s>>1 ^ 0x82f63b78
			} else {
				s >>= 1
			}
		}
	}
	s = ^s
	return s>>15 + s<<17 + 0xa282ead8
}

// fragment is a fragment's bytes: layer 13's words, byte by byte.
func fragment(kind int, epoch uint64, data []byte) []byte {
	behind := []byte{byte(len(data)), byte(len(data) >> 8), byte(kind), byte(epoch), byte(epoch >> 8), byte(epoch >> 16), byte(epoch >> 24)}
	behind = append(behind, data...)
	s := sum(behind)
	return append([]byte{byte(s), byte(s >> 8), byte(s >> 16), byte(s >> 24)}, behind...)
}

// begin is where a piece begins: layer 7's words, place by place.
func begin(at int) int {
	at = min(max(at, 0), all)
	for at < all && room-at%room < head {
		at++
	}
	return at
}

// piece is where one begins, its Kind, and which of the record's bytes it has.
type piece struct{ at, kind, from, to int }

// pieces are those of a record of n bytes, and the place behind the last one: layer 14's words, byte by byte.
func pieces(at, n int) ([]piece, int, bool) {
	var l []piece
	had := 0
	for len(l) == 0 || had < n {
		p := piece{at: begin(at), kind: 3, from: had}
		if p.at == all {
			return nil, 0, false
		}
		at = p.at + head
		for had < n && at%block != 0 {
			at++
			had++
		}
		p.to = had
		l = append(l, p)
	}
	l[0].kind = 2
	l[len(l)-1].kind = 4
	if len(l) == 1 {
		l[0].kind = 1
	}
	return l, at, true
}

// slowAdd is what the chapter says of Add, byte by byte.
func slowAdd(epoch uint64, body []byte, at int, data []byte) ([]byte, int, bool) {
	l, behind, ok := pieces(at, len(data))
	if !ok {
		return nil, 0, false
	}
	var next []byte
	for i := range all {
		if i < len(body) {
			next = append(next, body[i])
		} else {
			next = append(next, 0)
		}
	}
	for _, p := range l {
		for i, x := range fragment(p.kind, epoch, data[p.from:p.to]) {
			next[p.at+i] = x
		}
	}
	return next, behind, true
}

// laid is what the chapter says of records: the laid body, its end, their places, and whether they all fit.
type laid struct {
	body   []byte
	end    int
	places []int
	ok     bool
}

// slowLaid is the laid body of l, record by record.
func slowLaid(epoch uint64, l [][]byte) laid {
	was := laid{body: make([]byte, all), ok: true}
	for _, data := range l {
		body, end, ok := slowAdd(epoch, was.body, was.end, data)
		if !ok {
			return laid{}
		}
		was = laid{body: body, end: end, places: append(was.places, begin(was.end)), ok: true}
	}
	return was
}

// slowSectors are the sectors of a body, byte by byte: those that have a place below end, the others empty.
func slowSectors(epoch uint64, body []byte, end int) []api.Sec {
	l := make([]api.Sec, sectors)
	for at := range end {
		i := at / room
		for k := range sector {
			switch {
			case k < 8:
				l[i][k] = byte(epoch >> (8 * k))
			case k < ahead:
				l[i][k] = byte(i >> (8 * (k - 8)))
			default:
				l[i][k] = body[room*i+k-ahead]
			}
		}
	}
	return l
}

// sameLaid fails, if Body, Places or Sectors of l answer anything else than what is told.
func sameLaid(t *testing.T, epoch uint64, l [][]byte, want laid) {
	t.Helper()
	body, end, ok := Body(epoch, l)
	if !slices.Equal(body, want.body) || end != want.end || ok != want.ok {
		t.Fatalf("Body(%d) of the lengths %v: %d, %t, not %d, %t; %s", epoch, lengthsOf(l), end, ok, want.end, want.ok, differ(body, want.body))
	}
	places, ok := Places(l)
	if !slices.Equal(places, want.places) || ok != want.ok {
		t.Fatalf("Places of the lengths %v = %v, %t, not %v, %t", lengthsOf(l), places, ok, want.places, want.ok)
	}
	var secs []api.Sec
	if want.ok {
		secs = slowSectors(epoch, want.body, want.end)
	}
	got, ok := Sectors(epoch, l)
	if !slices.Equal(got, secs) || ok != want.ok {
		t.Fatalf("Sectors(%d) of the lengths %v: %t, not %t; %s", epoch, lengthsOf(l), ok, want.ok, differ(got, secs))
	}
}

// sameAdd fails, if Add answers anything else than what the chapter says.
func sameAdd(t *testing.T, epoch uint64, body []byte, at int, data []byte) {
	t.Helper()
	want, behind, fits := slowAdd(epoch, body, at, data)
	got, end, ok := Add(epoch, body, at, data)
	if !slices.Equal(got, want) || end != behind || ok != fits {
		t.Fatalf("Add(%d, %d bytes, %d, %d bytes): %d, %t, not %d, %t; %s", epoch, len(body), at, len(data), end, ok, behind, fits, differ(got, want))
	}
}

// differ tells where a list is another one than that which is asked for.
func differ[T comparable](got, want []T) string {
	for i := range min(len(got), len(want)) {
		if got[i] != want[i] {
			return fmt.Sprintf("at %d there is %v, not %v", i, got[i], want[i])
		}
	}
	return fmt.Sprintf("%d long, not %d", len(got), len(want))
}

// lengthsOf are the lengths of l's records.
func lengthsOf(l [][]byte) []int {
	var n []int
	for _, data := range l {
		n = append(n, len(data))
	}
	return n
}
