package cut

import (
	"math"
	"slices"
	"strings"
	"testing"

	"strandline/api"
)

// A body's numbers and the kinds of its pieces, as they are told in no code but here.
const (
	room   = 52
	block  = 208
	end    = 832
	head   = 11
	full   = 1
	first  = 2
	middle = 3
	last   = 4
)

// part is a fragment that is written out, but for its Epoch.
type part struct {
	kind int
	data []byte
}

// writtenPieces are those whose At, Kind, From and To are written out.
func writtenPieces(rows ...[4]int) []api.Piece {
	var l []api.Piece
	for _, r := range rows {
		l = append(l, api.Piece{At: r[0], Kind: r[1], From: r[2], To: r[3]})
	}
	return l
}

// writtenFrags are the fragments of that epoch whose parts are written out.
func writtenFrags(epoch uint32, parts []part) []api.Frag {
	var l []api.Frag
	for _, p := range parts {
		l = append(l, api.Frag{Kind: p.kind, Epoch: epoch, Data: p.data})
	}
	return l
}

// beyond are numbers below 0 and above SegRoom, with the places that they are taken as.
func beyond() []struct{ at, want int } {
	var l []struct{ at, want int }
	for _, at := range []int{
		math.MinInt, math.MinInt + 1, math.MinInt + head, math.MinInt + block, -1<<32 - 1, -1 << 32, -1<<32 + 197, math.MinInt32 - 1, math.MinInt32,
		-65536, -end - 1, -end, -end + 1, -256, -block, -197, -room, -head, -10, -2, -1,
	} {
		l = append(l, struct{ at, want int }{at, 0})
	}
	for _, at := range []int{
		end + 1, end + 2, end + head, end + room, end + block, 2*end - 1, 2 * end, 65536, 65536 + 197, math.MaxInt32, math.MaxInt32 + 1, 1 << 32, 1<<32 + 197, 1<<32 + end,
		math.MaxInt - end, math.MaxInt - block, math.MaxInt - head, math.MaxInt - 1, math.MaxInt,
	} {
		l = append(l, struct{ at, want int }{at, end})
	}
	return l
}

// places are all from 0 to SegRoom, and those beyond.
func places() []int {
	var l []int
	for at := range end + 1 {
		l = append(l, at)
	}
	for _, c := range beyond() {
		l = append(l, c.at)
	}
	return l
}

// below are numbers that no record has as its length: they are less than 0.
func below() []int {
	return []int{math.MinInt, math.MinInt + 1, math.MinInt + head, math.MinInt + end, -1 << 32, -1<<32 + 5, math.MinInt32 - 1, math.MinInt32, -65536, -end, -256 + 5, -256, -block, -head - 1, -head, -2, -1}
}

// far are lengths for which no body has room, some the same as a small one in fewer bits, rising.
func far() []int {
	return []int{
		789, 790, 800, end - 1, end, end + 1, 1000, 1024, 65535, 65536, 65536 + 5, math.MaxInt32, math.MaxInt32 + 1, 1<<32 - 1, 1 << 32, 1<<32 + 1, 1<<32 + 5, 1<<62 + 5,
		math.MaxInt - end, math.MaxInt - block, math.MaxInt - head, math.MaxInt - 1, math.MaxInt,
	}
}

// nearer is at as the nearer one of 0 and SegRoom, by counting out the cases.
func nearer(at int) int {
	if at < 0 {
		return 0
	}
	if at > end {
		return end
	}
	return at
}

// slowBegin is layer 7's Begin, going on byte by byte.
func slowBegin(at int) int {
	at = nearer(at)
	if room-at%room >= head {
		return at
	}
	for at%room != 0 {
		at++
	}
	return at
}

// slowCut is what the chapter says of Cut, byte by byte.
func slowCut(at, n int) ([]api.Piece, int, bool) {
	if n < 0 {
		return nil, 0, false
	}
	var l []api.Piece
	had := 0
	for {
		at = slowBegin(at)
		if at == end {
			return nil, 0, false
		}
		p := api.Piece{At: at, Kind: middle, From: had}
		at += head
		for had < n && at%block != 0 {
			had++
			at++
		}
		p.To = had
		l = append(l, p)
		if had == n {
			break
		}
	}
	l[0].Kind = first
	l[len(l)-1].Kind = last
	if len(l) == 1 {
		l[0].Kind = full
	}
	return l, at, true
}

// slowRoom counts the bytes behind heads from the place at on, one by one.
func slowRoom(at int) int {
	at = slowBegin(at)
	if at == end {
		return -1
	}
	count, heads := 0, head
	for ; at < end; at++ {
		if at%block == 0 {
			heads = head
		}
		if heads > 0 {
			heads--
		} else {
			count++
		}
	}
	return count
}

// slowFrags is what the chapter says of Frags, piece by piece.
func slowFrags(epoch uint32, at int, data []byte) ([]api.Frag, bool) {
	pieces, _, ok := slowCut(at, len(data))
	var l []api.Frag
	for _, p := range pieces {
		f := api.Frag{Kind: p.Kind, Epoch: epoch}
		for i := p.From; i < p.To; i++ {
			f.Data = append(f.Data, data[i])
		}
		l = append(l, f)
	}
	return l, ok
}

// bounds are lengths of records from the place at on that end at a block's end, one byte before it and one behind it, 0, 1, and the most that fits and one more; rising.
func bounds(at int) []int {
	most := slowRoom(at)
	l := []int{0, 1, 2}
	for n := most; n >= 0; n -= block - head {
		l = append(l, n-1, n, n+1)
	}
	slices.Sort(l)
	l = slices.Compact(l)
	return slices.DeleteFunc(l, func(n int) bool { return n < 0 })
}

// epochs are the bounds of their bits, and some between.
func epochs() []uint32 {
	return []uint32{0, 1, 1 << 31, 1<<32 - 1, 2, 255, 256, 0x01020304, 1<<31 - 1, 1<<31 + 1}
}

// sameCut fails, if Cut answers anything else.
func sameCut(t *testing.T, at, n int, want []api.Piece, behind int, ok bool) {
	t.Helper()
	got, gotBehind, gotOK := Cut(at, n)
	if !slices.Equal(got, want) || gotBehind != behind || gotOK != ok {
		t.Errorf("Cut(%d, %d) = %v, %d, %t, not %v, %d, %t", at, n, got, gotBehind, gotOK, want, behind, ok)
	}
}

// noCut fails, if Cut, Fits or Frags tell that a record of n bytes fits from the place at on, or anything beside that it doesn't.
func noCut(t *testing.T, at, n int) {
	t.Helper()
	sameCut(t, at, n, nil, 0, false)
	if Fits(at, n) {
		t.Errorf("Fits(%d, %d)", at, n)
	}
	if n < 0 || n > 1<<16 {
		return
	}
	if l, ok := Frags(7, at, mixed(n)); len(l) != 0 || ok {
		t.Errorf("Frags of %d bytes at %d = %d ones, %t", n, at, len(l), ok)
	}
}

// sameFrags tells whether the fragments are the same, byte by byte.
func sameFrags(a, b []api.Frag) bool {
	return slices.EqualFunc(a, b, func(f, g api.Frag) bool {
		return f.Kind == g.Kind && f.Epoch == g.Epoch && slices.Equal(f.Data, g.Data)
	})
}

// scatter tells bytes that look like any, the same ones in each run.
func scatter(count int) []byte {
	var l []byte
	n := uint64(88172645463325252)
	for range count {
		n ^= n << 13
		n ^= n >> 7
		n ^= n << 17
		l = append(l, byte(n>>32))
	}
	return l
}

// mixed tells so many bytes of 0, 127, 128, 255, and others; no piece's beginning has the same ones as the next one's.
func mixed(n int) []byte {
	return []byte(strings.Repeat("\x00\x7f\x80\xffab\x01", n/7+1)[:n])
}

// roomy is b, with bytes behind its end that are not its own.
func roomy(b []byte) []byte {
	return append(slices.Clone(b), strings.Repeat("\x01\x00\xff\x7f", 60)...)[:len(b)]
}

// whole is b, and the room behind its end, as they are now.
func whole(b []byte) []byte {
	return slices.Clone(b[:cap(b)])
}

// spoil turns all bits of b, and of the room behind its end.
func spoil(b []byte) {
	for i := range b[:cap(b)] {
		b[:cap(b)][i] ^= 255
	}
}
