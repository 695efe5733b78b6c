package crc

import (
	"bytes"
	"math"
	"slices"
	"testing"
)

// known is a text with its sum, as it stands in no code but here.
type known struct {
	name string
	b    []byte
	sum  uint32
}

// knowns are texts whose sums were found elsewhere.
func knowns() []known {
	rising := make([]byte, 32)
	for i := range rising {
		rising[i] = byte(i)
	}
	falling := slices.Clone(rising)
	slices.Reverse(falling)
	return []known{
		{"none", nil, 0},
		{"empty", []byte{}, 0},
		{"a byte 0", []byte{0}, 0x527d5351},
		{"a byte 128", []byte{128}, 0xd08b6829},
		{"a byte 255", []byte{255}, 0xff000000},
		{"a", []byte("a"), 0xc1d04330},
		{"abc", []byte("abc"), 0x364b3fb7},
		{"strd", []byte("strd"), 0x49bf7ae6},
		{"four bytes 0", make([]byte, 4), 0x48674bc7},
		{"four bytes 255", bytes.Repeat([]byte{255}, 4), 0xffffffff},
		{"the chapter's example", []byte("123456789"), 0xe3069283},
		{"32 bytes 0", make([]byte, 32), 0x8a9136aa},
		{"32 bytes 255", bytes.Repeat([]byte{255}, 32), 0x62a8ab43},
		{"0 to 31", rising, 0x46dd794e},
		{"31 to 0", falling, 0x113fdb5c},
		{"a line", []byte("The quick brown fox jumps over the lazy dog"), 0x22620404},
		{"2^16 bytes 0", make([]byte, 1<<16), 0x72c0c4a4},
		{"2^20 bytes 0", make([]byte, 1<<20), 0x14298c12},
	}
}

// scatter tells numbers that look like any, the same ones in each run.
func scatter(count int) []uint32 {
	var l []uint32
	n := uint64(88172645463325252)
	for range count {
		n ^= n << 13
		n ^= n >> 7
		n ^= n << 17
		l = append(l, uint32(n>>32))
	}
	return l
}

// numbers are those of one bit, those next to them, all ones, and some others.
func numbers() []uint32 {
	l := []uint32{0, math.MaxUint32, math.MaxUint32 - 1, 0x82f63b78, 0xa282ead8, 0x5d7d1528}
	for i := range 32 {
		l = append(l, 1<<i, 1<<i-1, 1<<i+1, ^uint32(1<<i))
	}
	return append(l, scatter(300)...)
}

// text tells so many bytes that look like any, the same ones in each run.
func text(size int) []byte {
	b := make([]byte, size)
	for i, n := range scatter(size) {
		b[i] = byte(n)
	}
	return b
}

// step is the chapter's step.
func step(x uint32) uint32 {
	if x&1 == 1 {
		return x>>1 ^ 0x82f63b78
	}
	return x >> 1
}

// steps is so many of them.
func steps(x uint32, count int) uint32 {
	for range count {
		x = step(x)
	}
	return x
}

// slowSum is what the chapter says of CRC-32C, bit by bit.
func slowSum(b []byte) uint32 {
	x := uint32(0xffffffff)
	for _, c := range b {
		x = steps(x^uint32(c), 8)
	}
	return ^x
}

// product multiplies polynomials modulo Castagnoli's: the highest bit is the power 0, and a step is one power more.
func product(a, b uint32) uint32 {
	var sum uint32
	for i := 31; i >= 0; i-- {
		if a>>i&1 == 1 {
			sum ^= b
		}
		b = step(b)
	}
	return sum
}

// slowShift is x times the power of eight times n, which is found by multiplying.
func slowShift(x uint32, n uint64) uint32 {
	const zeroth = 1 << 31
	power := steps(zeroth, 8)
	for ; n > 0; n /= 2 {
		if n%2 == 1 {
			x = product(x, power)
		}
		power = product(power, power)
	}
	return x
}

// The chapter's example.
func TestExample(t *testing.T) {
	if got := Of([]byte("123456789")); got != 0xe3069283 {
		t.Errorf("Of = %x, want e3069283", got)
	}
}

// P3.1: Of texts whose sums are known.
func TestOfKnown(t *testing.T) {
	for _, c := range knowns() {
		if got := Of(c.b); got != c.sum {
			t.Errorf("Of(%s) = %08x, want %08x", c.name, got, c.sum)
		}
	}
}

// P3.1: all texts of one and of two bytes, bit by bit.
func TestOfShort(t *testing.T) {
	for i := range 256 {
		if b := []byte{byte(i)}; Of(b) != slowSum(b) {
			t.Fatalf("Of(%v) = %08x, want %08x", b, Of(b), slowSum(b))
		}
		for k := range 256 {
			if b := []byte{byte(i), byte(k)}; Of(b) != slowSum(b) {
				t.Fatalf("Of(%v) = %08x, want %08x", b, Of(b), slowSum(b))
			}
		}
	}
}

// P3.1: texts of each length up to some sectors, and long ones, bit by bit.
func TestOfByWords(t *testing.T) {
	long := text(1 << 20)
	for size := range 600 {
		b := long[size : 2*size]
		if Of(b) != slowSum(b) {
			t.Fatalf("Of %d bytes = %08x, want %08x", size, Of(b), slowSum(b))
		}
	}
	for _, size := range []int{1 << 12, 1<<16 - 1, 1 << 16, 1<<16 + 1, 1 << 20} {
		if b := long[:size]; Of(b) != slowSum(b) {
			t.Fatalf("Of %d bytes = %08x, want %08x", size, Of(b), slowSum(b))
		}
	}
}

// P3.1: More goes on where a sum ended, wherever a text is parted.
func TestMore(t *testing.T) {
	for _, size := range []int{0, 1, 2, 3, 9, 64, 300} {
		b := text(size)
		want := slowSum(b)
		for at := range size + 1 {
			if got := More(Of(b[:at]), b[at:]); got != want {
				t.Fatalf("More of %d bytes, parted at %d, = %08x, want %08x", size, at, got, want)
			}
		}
		sum := Of(nil)
		for _, c := range b {
			sum = More(sum, []byte{c})
		}
		if sum != want {
			t.Fatalf("More of %d bytes, one by one, = %08x, want %08x", size, sum, want)
		}
	}
}

// P3.1: More of a long text, by parts of unlike lengths.
func TestMoreLong(t *testing.T) {
	b := text(1 << 18)
	sum := uint32(0)
	for at, part := 0, 0; at < len(b); part++ {
		end := min(at+part*part, len(b))
		sum = More(sum, b[at:end])
		at = end
	}
	if want := slowSum(b); sum != want {
		t.Errorf("More = %08x, want %08x", sum, want)
	}
}

// P3.1: More of any sum, by the chapter's words: that of nothing behind it stays as it is.
func TestMoreOfAnySum(t *testing.T) {
	for i, sum := range numbers() {
		if More(sum, nil) != sum || More(sum, []byte{}) != sum {
			t.Fatalf("More(%08x, nothing) = %08x", sum, More(sum, nil))
		}
		b := text(i % 40)
		x := ^sum
		for _, c := range b {
			x = steps(x^uint32(c), 8)
		}
		if got := More(sum, b); got != ^x {
			t.Fatalf("More(%08x, %d bytes) = %08x, want %08x", sum, len(b), got, ^x)
		}
	}
}

// P3.1: neither Of nor More changes what it is given, or looks at the room behind its end.
func TestBytesStay(t *testing.T) {
	a, b := text(80), text(80)
	for i := 40; i < 80; i++ {
		b[i] ^= 255
	}
	was := slices.Clone(a)
	if Of(a[:40]) != Of(b[:40]) || More(7, a[:40]) != More(7, b[:40]) {
		t.Error("what lies behind the end is summed")
	}
	if !slices.Equal(a, was) {
		t.Error("what was handed in is changed")
	}
}

// P3.1: masked sums as they are, the edges of both the turn and what is added among them.
func TestMask(t *testing.T) {
	for _, c := range []struct{ sum, want uint32 }{
		{0, 0xa282ead8},
		{1, 0xa284ead8},
		{1 << 14, 0x2282ead8},
		{1 << 15, 0xa282ead9},
		{1 << 31, 0xa283ead8},
		{0x7fff, 0xa280ead8},
		{0xffff8000, 0xa284ead7},
		{0xffffffff, 0xa282ead7},
		{0x8a9136aa, 0x0fd7fffa},
		{0xe3069283, 0xc78ab0e5},
	} {
		if got := Mask(c.sum); got != c.want {
			t.Errorf("Mask(%08x) = %08x, want %08x", c.sum, got, c.want)
		}
		if got := Unmask(c.want); got != c.sum {
			t.Errorf("Unmask(%08x) = %08x, want %08x", c.want, got, c.sum)
		}
	}
}

// P3.1: masked sums by the chapter's words: bit by bit to the right, what falls out coming in at the other end.
func TestMaskByWords(t *testing.T) {
	for _, sum := range numbers() {
		x := uint64(sum)
		for range 15 {
			x = x/2 + x%2<<31
		}
		want := uint32((x + 0xa282ead8) % (1 << 32))
		if got := Mask(sum); got != want {
			t.Fatalf("Mask(%08x) = %08x, want %08x", sum, got, want)
		}
		if got := Unmask(want); got != sum {
			t.Fatalf("Unmask(%08x) = %08x, want %08x", want, got, sum)
		}
	}
}

// P3.2: Shift's steps, counted one by one.
func TestShiftSmall(t *testing.T) {
	for i, x := range numbers() {
		want := x
		for n := range 70 + i {
			if got := Shift(x, n); got != want {
				t.Fatalf("Shift(%08x, %d) = %08x, want %08x", x, n, got, want)
			}
			want = steps(want, 8)
		}
	}
}

// P3.2: some thousands and millions of steps, counted one by one.
func TestShiftMiddling(t *testing.T) {
	for _, n := range []int{511, 512, 832, 4096, 65535, 65536, 1_000_003} {
		for _, x := range []uint32{1, 1 << 31, 0xe3069283, math.MaxUint32} {
			if got, want := Shift(x, n), steps(x, 8*n); got != want {
				t.Fatalf("Shift(%08x, %d) = %08x, want %08x", x, n, got, want)
			}
		}
	}
}

// P3.2: of a number below 0, and of 0, there are no steps.
func TestShiftNone(t *testing.T) {
	for _, n := range []int{0, -1, -2, -8, -1 << 31, -1 << 40, -1<<40 - 1, math.MinInt + 1, math.MinInt} {
		for _, x := range numbers() {
			if got := Shift(x, n); got != x {
				t.Fatalf("Shift(%08x, %d) = %08x", x, n, got)
			}
		}
	}
}

// P3.2: great numbers of steps, by powers of polynomials.
func TestShiftGreat(t *testing.T) {
	l := []int{1<<28 - 1, 1 << 28, 1<<31 - 1, 1 << 31, 1<<32 - 1, 1 << 32, 1<<32 + 1, 1<<39 + 1<<20 + 1, 1<<40 - 512, 1<<40 - 2, 1<<40 - 1, 1 << 40}
	for _, n := range scatter(40) {
		l = append(l, int(n)<<8+int(n%256))
	}
	for _, n := range l {
		for _, x := range numbers() {
			if got, want := Shift(x, n), slowShift(x, uint64(n)); got != want {
				t.Fatalf("Shift(%08x, %d) = %08x, want %08x", x, n, got, want)
			}
		}
	}
}

// P3.2: 2^31 - 1 steps bring each number back, so 2^43 steps are 2^12, which can be counted.
func TestShiftRound(t *testing.T) {
	const round = 1<<31 - 1
	for _, x := range numbers() {
		for n, left := range map[int]int{1 << 28: 1, round: 0, round + 1: 8, 1 << 39: 1 << 11, 1<<40 - 1: 1<<12 - 8, 1 << 40: 1 << 12} {
			if 8*n%round != left {
				t.Fatalf("of the steps of %d bytes %d are left, not %d", n, 8*n%round, left)
			}
			if got, want := Shift(x, n), steps(x, left); got != want {
				t.Fatalf("Shift(%08x, %d) = %08x, want %08x", x, n, got, want)
			}
		}
	}
}

// P3.2: a number above 2^40 counts as 2^40, and one below it does not.
func TestShiftMost(t *testing.T) {
	for _, x := range numbers() {
		want := steps(x, 1<<12)
		for _, n := range []int{1 << 40, 1<<40 + 1, 1<<40 + 1<<39, 1 << 41, 1<<43 + 5, 1 << 60, 1<<61 + 1, 1 << 62, math.MaxInt - 1, math.MaxInt} {
			if got := Shift(x, n); got != want {
				t.Fatalf("Shift(%08x, %d) = %08x, want %08x", x, n, got, want)
			}
		}
		if got := steps(Shift(x, 1<<40-1), 8); got != want {
			t.Fatalf("Shift(%08x, 2^40 - 1), and eight steps, = %08x, want %08x", x, got, want)
		}
		if step(x) != x && Shift(x, 1<<40-1) == want {
			t.Fatalf("Shift(%08x, 2^40 - 1) has as many steps as that of 2^40", x)
		}
	}
}

// P3.2: steps behind steps are as many together.
func TestShiftBehindShift(t *testing.T) {
	for i, x := range numbers() {
		for _, n := range []int{0, 1, 5, 300, 1 << 20, 1<<38 + 77} {
			m := 3*i + 1
			if got, want := Shift(Shift(x, n), m), Shift(x, n+m); got != want {
				t.Fatalf("Shift(Shift(%08x, %d), %d) = %08x, want %08x", x, n, m, got, want)
			}
		}
	}
}

// P3.2: Join is Shift of the one, exclusive-ored with the other, whatever they are.
func TestJoinByWords(t *testing.T) {
	l := numbers()
	for i, a := range l {
		b := l[len(l)-1-i]
		for _, n := range []int{math.MinInt, -1, 0, 1, 2, 40, 300} {
			if got, want := Join(a, b, n), steps(a, 8*min(max(n, 0), 300))^b; got != want {
				t.Fatalf("Join(%08x, %08x, %d) = %08x, want %08x", a, b, n, got, want)
			}
		}
		for _, n := range []int{1 << 40, 1<<40 + 1, math.MaxInt} {
			if got, want := Join(a, b, n), steps(a, 1<<12)^b; got != want {
				t.Fatalf("Join(%08x, %08x, %d) = %08x, want %08x", a, b, n, got, want)
			}
		}
	}
}

// P3.3: Join of two texts' sums is the sum of both, of all lengths up to some, empty ones among them.
func TestJoinOfTexts(t *testing.T) {
	b := text(90)
	for end := range len(b) + 1 {
		want := slowSum(b[:end])
		for at := range end + 1 {
			if got := Join(Of(b[:at]), Of(b[at:end]), end-at); got != want {
				t.Fatalf("Join of %d and %d bytes = %08x, want %08x", at, end-at, got, want)
			}
		}
	}
}

// P3.3: Join of long texts' sums, and of those of many texts.
func TestJoinOfLongTexts(t *testing.T) {
	b := text(1 << 19)
	want := slowSum(b)
	for _, at := range []int{0, 1, 511, 512, 65536, 1 << 18, 1<<19 - 1, 1 << 19} {
		if got := Join(Of(b[:at]), Of(b[at:]), len(b)-at); got != want {
			t.Fatalf("Join, parted at %d, = %08x, want %08x", at, got, want)
		}
	}
	sum := Of(nil)
	for part := range slices.Chunk(b, 777) {
		sum = Join(sum, Of(part), len(part))
	}
	if sum != want {
		t.Errorf("Join of many = %08x, want %08x", sum, want)
	}
}

// P3.3: the sum of a text, and of 2^31 bytes 0 and 2^40 behind it, without going through them.
func TestJoinOfGreatTexts(t *testing.T) {
	zeros := func(n int) uint32 { return ^Shift(math.MaxUint32, n) }
	if got, want := zeros(1<<20), Of(make([]byte, 1<<20)); got != want {
		t.Fatalf("the sum of 2^20 bytes 0 = %08x, want %08x", got, want)
	}
	b := text(50)
	for n, left := range map[int]int{1 << 31: 1, 1<<31 + 99: 100, 1 << 40: 512} {
		want := slowSum(append(slices.Clone(b), make([]byte, left)...))
		if got := Join(Of(b), zeros(n), n); got != want {
			t.Fatalf("Join of a text and %d bytes 0 = %08x, want %08x", n, got, want)
		}
	}
}

// unlike tells whether a text and the one with some bits turned, from a place on, have unlike sums, and puts the text back.
func unlike(b []byte, at int, turned uint32) bool {
	was := Of(b)
	flip := func() {
		for i := range min(4, len(b)-at) {
			b[at+i] ^= byte(turned >> (8 * i))
		}
	}
	flip()
	now := Of(b)
	flip()
	return now != was
}

// P3.3: each change of one bit, of one byte, and of two bits in four bytes gives another sum.
func TestSmallChanges(t *testing.T) {
	for _, size := range []int{1, 2, 3, 4, 5, 41, 64, 208} {
		b := text(size)
		for at := range size {
			near := min(4, size-at)
			for i := range 8 * near {
				for k := range i + 1 {
					if !unlike(b, at, 1<<i|1<<k) {
						t.Fatalf("of %d bytes those with the bits %d and %d turned behind %d have the same sum", size, i, k, at)
					}
				}
			}
			for c := 1; c < 256; c++ {
				if !unlike(b, at, uint32(c)) {
					t.Fatalf("of %d bytes those with another one at %d have the same sum", size, at)
				}
			}
		}
	}
}

// P3.3: any change of four bytes next to one another gives another sum, in any text.
func TestAnyChanges(t *testing.T) {
	turns := numbers()
	for i, size := range []int{4, 5, 7, 8, 16, 64, 208} {
		for _, b := range [][]byte{make([]byte, size), bytes.Repeat([]byte{255}, size), text(size + i)[i:]} {
			for at := range size - 3 {
				for _, turned := range turns {
					if turned != 0 && !unlike(b, at, turned) {
						t.Fatalf("of %d bytes those turned by %08x at %d have the same sum", size, turned, at)
					}
				}
			}
		}
	}
}

// P3.3: sums differ alike, whatever the text is; so, if no bits' changes make up another one's, no two changes of four bytes give the same sum.
func TestChangesAreFree(t *testing.T) {
	for _, size := range []int{1, 2, 3, 4, 5, 8, 41, 64, 208, 512} {
		near := min(4, size)
		for at := range size - near + 1 {
			var highest [32]uint32
			for i := range 8 * near {
				b := make([]byte, size)
				was := Of(b)
				b[at+i/8] ^= 1 << (i % 8)
				left := Of(b) ^ was
				for k := 31; k >= 0 && left != 0; k-- {
					if left>>k == 1 {
						if highest[k] == 0 {
							highest[k] = left
							break
						}
						left ^= highest[k]
					}
				}
				if left == 0 {
					t.Fatalf("of %d bytes the bit %d behind %d is made up by others", size, i, at)
				}
			}
		}
	}
}

// P3.3: the difference of two sums hangs on what differs alone.
func TestSumsDifferAlike(t *testing.T) {
	for size := range 100 {
		a, d := text(size), text(2 * size)[size:]
		both := make([]byte, size)
		for i := range both {
			both[i] = a[i] ^ d[i]
		}
		if Of(both)^Of(a) != Of(d)^Of(make([]byte, size)) {
			t.Fatalf("sums of %d bytes don't differ alike", size)
		}
	}
}

// P3.3: masked and unmasked a sum is as it was, and the other way about.
func TestMaskedAndBack(t *testing.T) {
	for _, x := range append(numbers(), scatter(20000)...) {
		if got := Unmask(Mask(x)); got != x {
			t.Fatalf("Unmask(Mask(%08x)) = %08x", x, got)
		}
		if got := Mask(Unmask(x)); got != x {
			t.Fatalf("Mask(Unmask(%08x)) = %08x", x, got)
		}
	}
}
