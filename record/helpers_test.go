package record

import (
	"math"
	"slices"
	"strings"

	"strandline/api"
	"strandline/varint"
)

// A record's numbers, as they are told in no code but here.
const (
	firstKind = 1
	lastKind  = 9
	lastChain = 3
	mostLSN   = 2147483647
	most      = 512
)

// kinds are all right ones, and wrong ones: beside these, what fewer bits make the same of, and the ends of the type.
func kinds() []int {
	return []int{
		math.MinInt, math.MinInt + 1, math.MinInt + 5, -1<<32 + 1, math.MinInt32, -255, -9, -2, -1, 0,
		1, 2, 3, 4, 5, 6, 7, 8, 9,
		10, 11, 12, 127, 128, 255, 256, 257, 265, 65537, math.MaxInt32, 1<<32 + 1, 1<<32 + 9, math.MaxInt - 1, math.MaxInt,
	}
}

// chains are all right ones, and wrong ones, likewise.
func chains() []int {
	return []int{
		math.MinInt, math.MinInt + 1, -1 << 32, math.MinInt32, -256, -255, -3, -2, -1,
		0, 1, 2, 3,
		4, 5, 9, 127, 128, 255, 256, 257, 65536, math.MaxInt32, 1 << 32, 1<<32 + 3, math.MaxInt - 1, math.MaxInt,
	}
}

// rightLSNs are those at the bounds, around each number of seven bits, and between.
func rightLSNs() []int {
	return []int{
		1, 2, 3, 63, 64, 126, 127, 128, 129, 255, 256, 257, 16382, 16383, 16384, 16385, 65535, 65536,
		1<<21 - 1, 1 << 21, 1<<21 + 1, 1<<28 - 1, 1 << 28, 1<<28 + 1, 1 << 30, mostLSN - 1, mostLSN,
	}
}

// wrongLSNs are those beside the bounds, what fewer bits make the same of, and the ends of the type.
func wrongLSNs() []int {
	return []int{
		math.MinInt, math.MinInt + 1, math.MinInt + 5, -1<<32 + 1, math.MinInt32, math.MinInt32 + 1, -128, -2, -1, 0,
		mostLSN + 1, mostLSN + 2, 1<<32 - 1, 1 << 32, 1<<32 + 1, 1<<32 + 128, 1 << 62, math.MaxInt - 1, math.MaxInt,
	}
}

func lsns() []int {
	return slices.Concat(rightLSNs(), wrongLSNs())
}

// rightPrevs are those of a right LSN: the bounds, what lies around each number of seven bits back from it, and between.
func rightPrevs(lsn int) []int {
	var l []int
	for _, n := range []int{0, 1, 2, 127, 128, 16384, lsn / 2, lsn - 16385, lsn - 16384, lsn - 16383, lsn - 129, lsn - 128, lsn - 127, lsn - 126, lsn - 3, lsn - 2, lsn - 1} {
		if n >= 0 && n < lsn && !slices.Contains(l, n) {
			l = append(l, n)
		}
	}
	return l
}

// wrongPrevs are those beside the bounds, what fewer bits make the same of, and the ends of the type.
func wrongPrevs(lsn int) []int {
	return []int{
		math.MinInt, math.MinInt + 1, -1 << 32, math.MinInt32, -256, -2, -1,
		lsn, lsn + 1, lsn + 2, lsn + 256, lsn + 1<<32 - 1, mostLSN, 1 << 32, math.MaxInt - 1, math.MaxInt,
	}
}

// heads are right records without Data: each right Kind and Chain, each of the LSNs and of the Prevs.
func heads() []api.Rec {
	var l []api.Rec
	for i, lsn := range rightLSNs() {
		for k, prev := range rightPrevs(lsn) {
			l = append(l, api.Rec{Kind: firstKind + (i+k)%lastKind, Chain: (i + k) % (lastChain + 1), LSN: lsn, Prev: prev})
		}
	}
	for kind := firstKind; kind <= lastKind; kind++ {
		for chain := range lastChain + 1 {
			l = append(l, api.Rec{Kind: kind, Chain: chain, LSN: 1}, api.Rec{Kind: kind, Chain: chain, LSN: 300, Prev: 299}, api.Rec{Kind: kind, Chain: chain, LSN: mostLSN, Prev: 1})
		}
	}
	return l
}

// wrongs are records without Data of which one field alone isn't right, or some.
func wrongs() []api.Rec {
	l := []api.Rec{{}, {Kind: 0, Chain: 4, LSN: 0, Prev: 0}, {Kind: 10, Chain: -1, LSN: mostLSN + 1, Prev: -1}}
	for _, kind := range kinds() {
		if kind < firstKind || kind > lastKind {
			l = append(l, api.Rec{Kind: kind, LSN: 1}, api.Rec{Kind: kind, Chain: lastChain, LSN: mostLSN, Prev: mostLSN - 1})
		}
	}
	for _, chain := range chains() {
		if chain < 0 || chain > lastChain {
			l = append(l, api.Rec{Kind: firstKind, Chain: chain, LSN: 1}, api.Rec{Kind: lastKind, Chain: chain, LSN: mostLSN})
		}
	}
	for _, lsn := range wrongLSNs() {
		for _, prev := range []int{0, 1, lsn / 2, lsn - 1, lsn, lsn + 1} {
			l = append(l, api.Rec{Kind: firstKind, LSN: lsn, Prev: prev})
		}
	}
	for _, lsn := range rightLSNs() {
		for _, prev := range wrongPrevs(lsn) {
			if prev < 0 || prev >= lsn {
				l = append(l, api.Rec{Kind: firstKind, Chain: 1, LSN: lsn, Prev: prev})
			}
		}
	}
	return l
}

// withData is the record, with this Data.
func withData(r api.Rec, data []byte) api.Rec {
	r.Data = data
	return r
}

// datas are nil, none, and some: each telling byte, such as look like a record, and as many as room holds beside the bounds.
func datas(room int) [][]byte {
	l := [][]byte{nil, {}, roomy(nil), {0}, {127}, {128}, {255}, {1, 0, 1, 1}, {128, 0}, []byte(mixed(127)), []byte(mixed(128))}
	for _, n := range []int{room - 1, room, room + 1, room + 2, room + most, 70000} {
		l = append(l, []byte(mixed(n)))
	}
	return append(l, roomy([]byte(mixed(room))))
}

// scatter tells numbers that look like any, the same ones in each run.
func scatter(count int) []uint64 {
	var l []uint64
	n := uint64(88172645463325252)
	for range count {
		n ^= n << 13
		n ^= n >> 7
		n ^= n << 17
		l = append(l, n)
	}
	return l
}

// manyRecs are right ones of all lengths, with numbers and bytes that look like any.
func manyRecs(count int) []api.Rec {
	var l []api.Rec
	numbers := scatter(count + most)
	for i := range count {
		n := numbers[i]
		r := api.Rec{Kind: firstKind + int(n>>40%lastKind), Chain: int(n >> 50 % (lastChain + 1)), LSN: 1 + int(n>>8)%mostLSN>>(n>>3%31)}
		r.Prev = int(numbers[i+1]>>8) % r.LSN
		if n>>60%3 == 0 {
			r.Prev = r.LSN - 1 - r.Prev>>20
		}
		for _, x := range numbers[i+1 : i+1+int(n>>20%(most-11))] {
			r.Data = append(r.Data, byte(x>>32))
		}
		l = append(l, r)
	}
	return l
}

// mixed tells so many bytes of 0, 127, 128, 255, and others.
func mixed(n int) string {
	return strings.Repeat("\x00\x7f\x80\xffab\x01\x02", n/8+1)[:n]
}

// slowShort is n's short bytes: seven bits each, the lowest ones first.
func slowShort(n int) []byte {
	if n < 128 {
		return []byte{byte(n)}
	}
	return append([]byte{byte(128 + n%128)}, slowShort(n/128)...)
}

// slowRight is what the chapter says of a right one, field by field.
func slowRight(r api.Rec) bool {
	if r.Kind < firstKind || r.Kind > lastKind || r.Chain < 0 || r.Chain > lastChain {
		return false
	}
	if r.LSN < 1 || r.LSN > mostLSN {
		return false
	}
	return r.Prev >= 0 && r.Prev < r.LSN
}

// slowBytes are a right one's bytes, also of one that has too many.
func slowBytes(r api.Rec) []byte {
	return slices.Concat([]byte{byte(r.Kind), byte(r.Chain)}, slowShort(r.LSN), slowShort(r.LSN-r.Prev), r.Data)
}

// slowEncode is what the chapter says of Encode, error by error.
func slowEncode(r api.Rec) ([]byte, api.Errno) {
	if !slowRight(r) {
		return nil, api.ErrArg
	}
	b := slowBytes(r)
	if len(b) > most {
		return nil, api.ErrLong
	}
	return b, api.OK
}

// slowDecode is what the chapter says of Decode, error by error.
func slowDecode(b []byte) (api.Rec, api.Errno) {
	if len(b) > most {
		return api.Rec{}, api.ErrLong
	}
	if len(b) < 2 {
		return api.Rec{}, api.ErrShort
	}
	lsn, n, e := varint.Get(b[2:])
	if e != api.OK {
		return api.Rec{}, e
	}
	back, k, e := varint.Get(b[2+n:])
	if e != api.OK {
		return api.Rec{}, e
	}
	// All is held against its bounds ahead of any sum or turn.
	if b[0] < firstKind || b[0] > lastKind || b[1] > lastChain || lsn < 1 || lsn > mostLSN || back < 1 || back > lsn {
		return api.Rec{}, api.ErrForm
	}
	return api.Rec{Kind: int(b[0]), Chain: int(b[1]), LSN: int(lsn), Prev: int(lsn - back), Data: b[2+n+k:]}, api.OK
}

// slowSame is what the chapter says of Same, byte by byte.
func slowSame(a, b api.Rec) bool {
	if a.Kind != b.Kind || a.Chain != b.Chain || a.LSN != b.LSN || a.Prev != b.Prev || len(a.Data) != len(b.Data) {
		return false
	}
	for i := range a.Data {
		if a.Data[i] != b.Data[i] {
			return false
		}
	}
	return true
}

// roomy is b, with bytes behind its end that are not its own.
func roomy(b []byte) []byte {
	return append(slices.Clone(b), strings.Repeat("\x01\x00\x01\x01", 200)...)[:len(b)]
}

// spoil turns all bits of b, and of the room behind its end.
func spoil(b []byte) {
	for i := range b[:cap(b)] {
		b[:cap(b)][i] ^= 255
	}
}

// grown are all texts of up to so many bytes, each one of few telling ones.
func grown(longest int, telling ...byte) [][]byte {
	l := [][]byte{nil}
	last := l
	for range longest {
		var next [][]byte
		for _, b := range last {
			for _, x := range telling {
				next = append(next, append(slices.Clone(b), x))
			}
		}
		l, last = append(l, next...), next
	}
	return l
}

// texts are bytes of all kinds: all of up to two, those of up to six that are made of few telling ones, and records' bytes, with one changed, cut off or added, and with so much Data that they are as long as may be, or longer.
func texts() [][]byte {
	l := grown(6, 0, 1, 2, 9, 127, 128, 129)
	for x := range 256 {
		l = append(l, []byte{byte(x)})
	}
	for x := range 1 << 16 {
		l = append(l, []byte{byte(x), byte(x >> 8)})
	}
	for i, r := range append(manyRecs(2000), heads()...) {
		b := slowBytes(r)
		l = append(l, b, append(slices.Clone(b), byte(i)), b[:len(b)-1])
		l = append(l, append(slices.Clone(b), mixed(most+i%3-len(b))...))
		for k := range 8 {
			changed := slices.Clone(b)
			changed[(i*31+k)%min(len(b), 12)] = byte(i*7 + k)
			l = append(l, changed)
		}
	}
	return l
}
