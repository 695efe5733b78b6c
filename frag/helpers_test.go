package frag

import (
	"math"
	"slices"
	"strings"
	"testing"

	"strandline/api"
)

// A fragment's numbers, as they are told in no code but here.
const (
	firstKind = 1
	lastKind  = 4
	headSize  = 11
	most      = 197
)

// rightKinds are all right ones.
func rightKinds() []int {
	return []int{1, 2, 3, 4}
}

// wrongKinds are those beside the bounds, what fewer bits make the same of, and the ends of the type.
func wrongKinds() []int {
	return []int{
		math.MinInt, math.MinInt + 1, math.MinInt + 2, -1<<32 + 1, math.MinInt32, -255, -254, -4, -1, 0,
		5, 6, 127, 128, 255, 256, 257, 260, 65537, math.MaxInt32, 1<<32 + 1, 1<<32 + 4, math.MaxInt - 1, math.MaxInt,
	}
}

// epochs are the bounds of each number of bytes, what lies beside them, and some between.
func epochs() []uint32 {
	return []uint32{
		0, 1, 2, 3, 127, 128, 254, 255, 256, 257, 1<<16 - 1, 1 << 16, 1<<16 + 1, 1<<24 - 1, 1 << 24, 1<<24 + 1,
		0x01020304, 0x7f80ff00, 1<<31 - 1, 1 << 31, 1<<31 + 1, 1<<32 - 2, 1<<32 - 1,
	}
}

// rightDatas are nil, none, and some: each telling byte, all lengths at the bounds, and such with room behind their end.
func rightDatas() [][]byte {
	l := [][]byte{nil, {}, roomy(nil), {0}, {127}, {128}, {255}, {0, 127, 128, 255}, make([]byte, most), slices.Repeat([]byte{255}, most)}
	for _, n := range []int{2, 3, 7, 8, 9, 15, 16, 127, 128, most - 1, most} {
		l = append(l, mixed(n))
	}
	return append(l, roomy(mixed(most)), roomy(mixed(5)))
}

// longDatas are those that have more bytes than may be: one more, what fewer bits make fewer of, far more.
func longDatas() [][]byte {
	var l [][]byte
	for _, n := range []int{most + 1, most + 2, 208, 255, 256, 257, 256 + most, 65535, 65536, 65537, 65536 + most, 1 << 20} {
		l = append(l, mixed(n))
	}
	return append(l, roomy(mixed(most+1)))
}

// frags are right ones: each Kind with each of the epochs, each of the Datas with each Kind, and some with numbers and bytes that look like any.
func frags() []api.Frag {
	var l []api.Frag
	for _, kind := range rightKinds() {
		for i, epoch := range epochs() {
			l = append(l, api.Frag{Kind: kind, Epoch: epoch}, api.Frag{Kind: kind, Epoch: epoch, Data: mixed(1 + i*9%most)})
		}
		for i, data := range rightDatas() {
			l = append(l, api.Frag{Kind: kind, Epoch: epochs()[i%len(epochs())], Data: data})
		}
	}
	return append(l, manyFrags(600)...)
}

// manyFrags are right ones of all lengths, with numbers and bytes that look like any.
func manyFrags(count int) []api.Frag {
	var l []api.Frag
	numbers := scatter(count + most)
	for i := range count {
		n := numbers[i]
		f := api.Frag{Kind: firstKind + int(n>>40%lastKind), Epoch: uint32(n>>8) >> (n >> 3 % 32)}
		for _, x := range numbers[i+1 : i+1+int(n>>20%(most+1))] {
			f.Data = append(f.Data, byte(x>>32))
		}
		l = append(l, f)
	}
	return l
}

// wrongs are no fragments: of each the Kind isn't right, or the Data is too long, or both.
func wrongs() []api.Frag {
	var l []api.Frag
	for i, kind := range wrongKinds() {
		for _, data := range append(rightDatas(), longDatas()...) {
			l = append(l, api.Frag{Kind: kind, Epoch: epochs()[i%len(epochs())], Data: data})
		}
	}
	for _, kind := range rightKinds() {
		for i, data := range longDatas() {
			l = append(l, api.Frag{Kind: kind, Epoch: epochs()[i%len(epochs())], Data: data}, api.Frag{Kind: kind, Data: data})
		}
	}
	return l
}

// withData is the fragment, with this Data.
func withData(f api.Frag, data []byte) api.Frag {
	f.Data = data
	return f
}

// scatter tells numbers that look like any, the same ones in each run.
func scatter(count int) []uint64 {
	var l []uint64
	n := uint64(88172645463325252)
	for range count {
		n ^= n << 13
		n ^= n >> 7
		n ^= n << 17
		l = append(l, n)
	}
	return l
}

// mixed tells so many bytes of 0, 127, 128, 255, and others.
func mixed(n int) []byte {
	return []byte(strings.Repeat("\x00\x7f\x80\xffab\x01\x02", n/8+1)[:n])
}

// slowSum is the masked sum, bit by bit as layer 3's words tell it.
func slowSum(b []byte) uint32 {
	sum := uint32(math.MaxUint32)
	for _, c := range b {
		sum ^= uint32(c)
		for range 8 {
			low := sum & 1
			sum >>= 1
			if low == 1 {
				sum ^= 0x82f63b78
			}
		}
	}
	sum ^= math.MaxUint32
	for range 15 {
		sum = sum>>1 + sum<<31
	}
	return sum + 0xa282ead8
}

// laid is a fragment's bytes, of any numbers, with the right sum.
func laid(count uint16, kind byte, epoch uint32, data []byte) []byte {
	b := []byte{0, 0, 0, 0, byte(count), byte(count >> 8), kind, byte(epoch), byte(epoch >> 8), byte(epoch >> 16), byte(epoch >> 24)}
	return sealed(append(b, data...))
}

// sealed is b, with the masked sum of all that stands behind the first four bytes in these.
func sealed(b []byte) []byte {
	b = slices.Clone(b)
	sum := slowSum(b[4:])
	b[0], b[1], b[2], b[3] = byte(sum), byte(sum>>8), byte(sum>>16), byte(sum>>24)
	return b
}

// slowBytes are a right one's bytes.
func slowBytes(f api.Frag) []byte {
	return laid(uint16(len(f.Data)), byte(f.Kind), f.Epoch, f.Data)
}

// slowRight is what the chapter says of a fragment.
func slowRight(f api.Frag) bool {
	return f.Kind >= firstKind && f.Kind <= lastKind && len(f.Data) <= most
}

// slowDecode is what the chapter says of Decode, error by error.
func slowDecode(b []byte, epoch uint32) (api.Frag, int, api.Errno) {
	if len(b) < headSize {
		return api.Frag{}, 0, api.ErrShort
	}
	if slices.Equal(b[:headSize], make([]byte, headSize)) {
		return api.Frag{}, 0, api.ErrNone
	}
	count := int(b[4]) + 256*int(b[5])
	own := uint32(b[7]) | uint32(b[8])<<8 | uint32(b[9])<<16 | uint32(b[10])<<24
	if b[6] < firstKind || b[6] > lastKind || count > most || own != epoch {
		return api.Frag{}, 0, api.ErrForm
	}
	if len(b) < headSize+count {
		return api.Frag{}, 0, api.ErrShort
	}
	if !slices.Equal(sealed(b[:headSize+count]), b[:headSize+count]) {
		return api.Frag{}, 0, api.ErrSum
	}
	return api.Frag{Kind: int(b[6]), Epoch: own, Data: slices.Clone(b[headSize : headSize+count])}, headSize + count, api.OK
}

// slowSame is what the chapter says of Same, byte by byte.
func slowSame(a, b api.Frag) bool {
	if a.Kind != b.Kind || a.Epoch != b.Epoch || len(a.Data) != len(b.Data) {
		return false
	}
	for i := range a.Data {
		if a.Data[i] != b.Data[i] {
			return false
		}
	}
	return true
}

// sameDecode fails, if Decode answers anything else.
func sameDecode(t *testing.T, why string, b []byte, epoch uint32, want api.Frag, size int, e api.Errno) {
	t.Helper()
	got, n, gotE := Decode(b, epoch)
	if !slowSame(got, want) || n != size || gotE != e {
		t.Errorf("%s: Decode of %v by %d = %v, %d, %d, not %v, %d, %d", why, b, epoch, got, n, gotE, want, size, e)
	}
}

// noDecode fails, if Decode answers another error, or anything beside it.
func noDecode(t *testing.T, why string, b []byte, epoch uint32, e api.Errno) {
	t.Helper()
	sameDecode(t, why, b, epoch, api.Frag{}, 0, e)
}

// roomy is b, with bytes behind its end that are not its own.
func roomy(b []byte) []byte {
	return append(slices.Clone(b), strings.Repeat("\x01\x00\xff\x7f", 60)...)[:len(b)]
}

// whole is b, and the room behind its end, as they are now.
func whole(b []byte) []byte {
	return slices.Clone(b[:cap(b)])
}

// spoil turns all bits of b, and of the room behind its end.
func spoil(b []byte) {
	for i := range b[:cap(b)] {
		b[:cap(b)][i] ^= 255
	}
}
