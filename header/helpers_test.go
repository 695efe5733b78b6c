package header

import (
	"math"
	"testing"

	"strandline/api"
)

// A header's numbers, as they are told in no code but here.
const (
	heads   = 4
	mostLSN = 2147483647
	before  = 37
	fields  = 41
	sector  = 64
)

// epochs are the bounds of each number of bytes, and some between.
func epochs() []uint64 {
	return []uint64{
		0, 1, 2, 3, 127, 128, 255, 256, 1<<16 - 1, 1 << 16, 1 << 24, 1<<31 - 1, 1 << 31, 1<<32 - 2, 1<<32 - 1, 1 << 32, 1<<32 + 1,
		1 << 40, 1 << 48, 1<<56 - 1, 1 << 56, 1<<63 - 1, 1 << 63, 1<<63 + 1, 1<<64 - 1<<32, 1<<64 - 2, 1<<64 - 1, 0x0102030405060708, 0xf1f2f3f4f5f6f7f8,
	}
}

// rightLSNs are the bounds of what is right of Seq and of First, and some between.
func rightLSNs() []int {
	return []int{1, 2, 3, 127, 128, 255, 256, 257, 65535, 65536, 65537, 1<<24 - 1, 1 << 24, 0x01020304, 1<<30 + 5, mostLSN - 2, mostLSN - 1, mostLSN}
}

// wrongLSNs are those beside the bounds, what fewer bits make the same of, and the ends of the type.
func wrongLSNs() []int {
	return []int{
		math.MinInt, math.MinInt + 1, math.MinInt + 2, -1<<32 - 1, -1 << 32, -1<<32 + 1, -1<<32 + mostLSN, math.MinInt32 - 1, math.MinInt32, math.MinInt32 + 1, -mostLSN, -65535, -256, -255, -2, -1, 0,
		mostLSN + 1, mostLSN + 2, 1<<32 - 2, 1<<32 - 1, 1 << 32, 1<<32 + 1, 1<<32 + mostLSN, 1 << 62, math.MaxInt - 1, math.MaxInt,
	}
}

// headsOf are numbers of heads at the bounds of what is right with a First, beside them, and far beyond.
func headsOf(first int) []int {
	return []int{
		math.MinInt, math.MinInt + 1, -1<<32 - 1, -1 << 32, math.MinInt32, -256, -2, -1, 0, 1, 2, 255, 256, 65536,
		first/2 + 1, first - 2, first - 1, first, first + 1, first + 2, -first, 1<<32 + first - 1,
		mostLSN - 2, mostLSN - 1, mostLSN, mostLSN + 1, 1<<32 - 1, 1 << 32, 1<<32 + 1, math.MaxInt - 1, math.MaxInt,
	}
}

// headers are right ones and others: all epochs, Seqs and Firsts with each other, and each of the heads at its bounds, alone and all at once.
func headers() []api.Header {
	var l []api.Header
	all := append(rightLSNs(), wrongLSNs()...)
	for _, epoch := range epochs() {
		for _, seq := range all {
			for _, first := range all {
				l = append(l, api.Header{Epoch: epoch, Seq: seq, First: first})
			}
		}
	}
	for i, first := range all {
		for _, n := range headsOf(first) {
			h := api.Header{Epoch: 1 + uint64(i)<<i, Seq: 1 + i, First: first}
			for place := range heads {
				one := h
				one.Heads[place] = n
				l = append(l, one)
				for other := range heads {
					if other != place {
						one.Heads[other] = max(first-1-other, 0)
					}
				}
				l = append(l, one)
			}
			l = append(l, withHeads(h, n))
		}
	}
	return l
}

// withHeads is h, with all of its heads n.
func withHeads(h api.Header, n int) api.Header {
	h.Heads = [heads]int{n, n, n, n}
	return h
}

// rightHeaders are those of the headers that are right, and many whose numbers look like any.
func rightHeaders() []api.Header {
	var l []api.Header
	for _, h := range headers() {
		if slowRight(h) {
			l = append(l, h)
		}
	}
	return append(l, manyHeaders(3000)...)
}

// manyHeaders are right ones, with numbers of all widths that look like any.
func manyHeaders(count int) []api.Header {
	var l []api.Header
	numbers := scatter(count * 14)
	next := func(most uint64) uint64 {
		n := numbers[0] >> (numbers[1] % 64) % most
		numbers = numbers[2:]
		return n
	}
	for range count {
		h := api.Header{Epoch: 1 + next(1<<64-1), Seq: 1 + int(next(mostLSN)), First: 1 + int(next(mostLSN))}
		for i := range h.Heads {
			h.Heads[i] = int(next(uint64(h.First)))
		}
		l = append(l, h)
	}
	return l
}

// scatter tells numbers that look like any, the same ones in each run.
func scatter(count int) []uint64 {
	var l []uint64
	n := uint64(88172645463325252)
	for range count {
		n ^= n << 13
		n ^= n >> 7
		n ^= n << 17
		l = append(l, n)
	}
	return l
}

// slowRight is what the chapter says of a right header.
func slowRight(h api.Header) bool {
	if h.Epoch == 0 || h.Seq < 1 || h.Seq > mostLSN || h.First < 1 || h.First > mostLSN {
		return false
	}
	for i := range heads {
		if h.Heads[i] < 0 || h.Heads[i] > h.First-1 {
			return false
		}
	}
	return true
}

// slowSum is the masked sum, bit by bit as layer 3's words tell it.
func slowSum(b []byte) uint32 {
	sum := uint32(math.MaxUint32)
	for _, c := range b {
		sum ^= uint32(c)
		for range 8 {
			low := sum & 1
			sum >>= 1
			if low == 1 {
				sum ^= 0x82f63b78
			}
		}
	}
	sum ^= math.MaxUint32
	for range 15 {
		sum = sum>>1 + sum<<31
	}
	return sum + 0xa282ead8
}

// laid is a sector of any numbers, with the right sum.
func laid(epoch uint64, seq, first uint32, l [heads]uint32) api.Sec {
	s := api.Sec{115, 116, 114, 100, 1}
	for i := range 8 {
		s[5+i] = byte(epoch % 256)
		epoch /= 256
	}
	for k, n := range []uint32{seq, first, l[0], l[1], l[2], l[3]} {
		for i := range 4 {
			s[13+4*k+i] = byte(n % 256)
			n /= 256
		}
	}
	return sealed(s)
}

// sealed is s, with the masked sum of its first 37 bytes in the four behind them.
func sealed(s api.Sec) api.Sec {
	sum := slowSum(s[:before])
	s[37], s[38], s[39], s[40] = byte(sum), byte(sum>>8), byte(sum>>16), byte(sum>>24)
	return s
}

// slowSector is a right header's sector.
func slowSector(h api.Header) api.Sec {
	var l [heads]uint32
	for i := range l {
		l[i] = uint32(h.Heads[i])
	}
	return laid(h.Epoch, uint32(h.Seq), uint32(h.First), l)
}

// numbersOf is the header of the numbers that s has, whatever else it has.
func numbersOf(s api.Sec) api.Header {
	var h api.Header
	for i := range 8 {
		h.Epoch = h.Epoch*256 + uint64(s[12-i])
	}
	var l [2 + heads]int
	for k := range l {
		for i := range 4 {
			l[k] = l[k]*256 + int(s[13+4*k+3-i])
		}
	}
	h.Seq, h.First = l[0], l[1]
	h.Heads = [heads]int(l[2:])
	return h
}

// slowDecode is what the chapter says of Decode, error by error.
func slowDecode(s api.Sec) (api.Header, api.Errno) {
	set := 0
	for at := range sector {
		if s[at] != 0 {
			set++
		}
	}
	if set == 0 {
		return api.Header{}, api.ErrNone
	}
	if s[0] != 's' || s[1] != 't' || s[2] != 'r' || s[3] != 'd' || s[4] != 1 {
		return api.Header{}, api.ErrForm
	}
	for at := fields; at < sector; at++ {
		if s[at] != 0 {
			return api.Header{}, api.ErrForm
		}
	}
	if sealed(s) != s {
		return api.Header{}, api.ErrSum
	}
	h := numbersOf(s)
	if !slowRight(h) {
		return api.Header{}, api.ErrForm
	}
	return h, api.OK
}

// slowNewer is what the chapter says of Newer.
func slowNewer(a, b api.Header) bool {
	if a.Epoch == b.Epoch {
		return a.Seq > b.Seq
	}
	return a.Epoch > b.Epoch
}

// sameDecode fails, if Decode answers anything else.
func sameDecode(t *testing.T, why string, s api.Sec, want api.Header, e api.Errno) {
	t.Helper()
	if got, gotE := Decode(s); got != want || gotE != e {
		t.Fatalf("%s: Decode of %v = %v, %d, not %v, %d", why, s, got, gotE, want, e)
	}
}

// noDecode fails, if Decode answers another error, or anything beside it.
func noDecode(t *testing.T, why string, s api.Sec, e api.Errno) {
	t.Helper()
	sameDecode(t, why, s, api.Header{}, e)
}
