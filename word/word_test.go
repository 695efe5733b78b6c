package word

import (
	"math"
	"slices"
	"testing"
)

// numbers are some of each size, the least, the greatest and those around the bytes' edges among them.
func numbers() []uint64 {
	l := []uint64{0, 1, 2, 127, 128, 254, 255, 256, 257, 258, 0x0102030405060708, 0xf1e2d3c4b5a69788, math.MaxUint64 - 1, math.MaxUint64}
	for i := range 64 {
		l = append(l, 1<<i, 1<<i-1, 1<<i+1, ^uint64(1<<i))
	}
	n := uint64(88172645463325252)
	for range 200 {
		n ^= n << 13
		n ^= n >> 7
		n ^= n << 17
		l = append(l, n)
	}
	return l
}

// places are numbers of Go's int, small ones and both ends of its range.
func places() []int {
	l := []int{math.MinInt, math.MinInt + 1, math.MinInt32, math.MaxInt32, math.MaxInt - 1, math.MaxInt}
	for i := -130; i <= 130; i++ {
		l = append(l, i)
	}
	return l
}

// P1.1: Put tells the lowest width bytes, the lowest one first.
func TestPut(t *testing.T) {
	for _, c := range []struct {
		n     uint64
		width int
		want  []byte
	}{
		{258, 2, []byte{2, 1}},
		{258, 1, []byte{2}},
		{258, 4, []byte{2, 1, 0, 0}},
		{0, 3, []byte{0, 0, 0}},
		{0x0102030405060708, 8, []byte{8, 7, 6, 5, 4, 3, 2, 1}},
		{0x0102030405060708, 7, []byte{8, 7, 6, 5, 4, 3, 2}},
		{math.MaxUint64, 8, []byte{255, 255, 255, 255, 255, 255, 255, 255}},
		{1 << 63, 8, []byte{0, 0, 0, 0, 0, 0, 0, 128}},
		{258, 0, nil},
		{258, -1, nil},
		{258, math.MinInt, nil},
		{258, 9, []byte{2, 1, 0, 0, 0, 0, 0, 0}},
		{math.MaxUint64, math.MaxInt, []byte{255, 255, 255, 255, 255, 255, 255, 255}},
	} {
		if got := Put(c.n, c.width); !slices.Equal(got, c.want) {
			t.Errorf("Put(%d, %d) = %v, want %v", c.n, c.width, got, c.want)
		}
	}
}

// P1.1: each byte of Put is what is left of the number, divided by 256 as often as its place says.
func TestPutByDivision(t *testing.T) {
	for _, n := range numbers() {
		for _, width := range places() {
			b := Put(n, width)
			if len(b) != min(max(width, 0), 8) {
				t.Fatalf("Put(%d, %d) has %d bytes", n, width, len(b))
			}
			left := n
			for i, x := range b {
				if uint64(x) != left%256 {
					t.Fatalf("Put(%d, %d) has %d at %d, want %d", n, width, x, i, left%256)
				}
				left /= 256
			}
		}
	}
}

// P1.1: Get tells the number of the first eight bytes; missing ones are 0.
func TestGet(t *testing.T) {
	for _, c := range []struct {
		b    []byte
		want uint64
	}{
		{nil, 0},
		{[]byte{}, 0},
		{[]byte{7}, 7},
		{[]byte{1, 2}, 513},
		{[]byte{0, 0, 0, 1}, 1 << 24},
		{[]byte{8, 7, 6, 5, 4, 3, 2}, 0x02030405060708},
		{[]byte{8, 7, 6, 5, 4, 3, 2, 1}, 0x0102030405060708},
		{[]byte{0, 0, 0, 0, 0, 0, 0, 128, 9}, 1 << 63},
		{slices.Repeat([]byte{255}, 8), math.MaxUint64},
		{slices.Repeat([]byte{255}, 100), math.MaxUint64},
	} {
		was := slices.Clone(c.b)
		if got := Get(c.b); got != c.want {
			t.Errorf("Get(%v) = %d, want %d", c.b, got, c.want)
		}
		if !slices.Equal(c.b, was) {
			t.Errorf("Get changed %v to %v", was, c.b)
		}
	}
}

// P1.1: what lies in the room behind a list's end is not told.
func TestGetLooksNotBehindTheEnd(t *testing.T) {
	b := []byte{1, 2, 3, 4}
	if got := Get(b[:2]); got != 513 {
		t.Errorf("Get = %d, want 513", got)
	}
}

// P1.1: what Put answers is new memory.
func TestPutIsNew(t *testing.T) {
	a, b := Put(258, 2), Put(258, 2)
	a[0] = 99
	if !slices.Equal(b, []byte{2, 1}) {
		t.Errorf("a change of one answer is seen in another: %v", b)
	}
}

// P1.1: Low keeps the bits below the place, and no other.
func TestLow(t *testing.T) {
	for _, c := range []struct {
		x    uint64
		bits int
		want uint64
	}{
		{511, 8, 255},
		{511, 9, 511},
		{256, 8, 0},
		{7, 1, 1},
		{7, 0, 0},
		{7, -1, 0},
		{math.MaxUint64, math.MinInt, 0},
		{math.MaxUint64, 63, math.MaxUint64 >> 1},
		{math.MaxUint64, 64, math.MaxUint64},
		{math.MaxUint64, 65, math.MaxUint64},
		{math.MaxUint64, math.MaxInt, math.MaxUint64},
	} {
		if got := Low(c.x, c.bits); got != c.want {
			t.Errorf("Low(%d, %d) = %d, want %d", c.x, c.bits, got, c.want)
		}
	}
}

// P1.1: bit by bit, of all numbers and all places.
func TestLowByBits(t *testing.T) {
	for _, x := range numbers() {
		for _, bits := range places() {
			var want uint64
			for i := range 64 {
				if i < bits {
					want += x / (1 << i) % 2 * (1 << i)
				}
			}
			if got := Low(x, bits); got != want {
				t.Fatalf("Low(%d, %d) = %d, want %d", x, bits, got, want)
			}
		}
	}
}

// P1.2: Turn moves each bit by k places, modulo 32.
func TestTurn(t *testing.T) {
	for _, c := range []struct {
		x    uint32
		k    int
		want uint32
	}{
		{1, -1, 1 << 31},
		{1, 1, 2},
		{1, 31, 1 << 31},
		{1, -31, 2},
		{0x80000001, 1, 3},
		{0x80000001, -1, 0xc0000000},
		{7, 0, 7},
		{7, 32, 7},
		{7, -32, 7},
		{7, 33, 14},
		{7, -33, 0x80000003},
		{0x12345678, 8, 0x34567812},
		{0x12345678, -8, 0x78123456},
		{0, 5, 0},
		{math.MaxUint32, 13, math.MaxUint32},
		{1, math.MaxInt, 1 << 31},
		{6, math.MinInt, 6},
		{6, math.MinInt + 1, 12},
	} {
		if got := Turn(c.x, c.k); got != c.want {
			t.Errorf("Turn(%x, %d) = %x, want %x", c.x, c.k, got, c.want)
		}
	}
}

// P1.2: bit by bit, of all numbers and all turns.
func TestTurnByBits(t *testing.T) {
	for _, n := range numbers() {
		x := uint32(n)
		for _, k := range places() {
			var want uint32
			for i := range 32 {
				to := ((i+k%32)%32 + 32) % 32
				want += x / (1 << i) % 2 * (1 << to)
			}
			if got := Turn(x, k); got != want {
				t.Fatalf("Turn(%x, %d) = %x, want %x", x, k, got, want)
			}
		}
	}
}

// P1.2: Zig, and the number whose Zig it is.
func TestZigZag(t *testing.T) {
	for _, c := range []struct {
		n int
		u uint64
	}{
		{0, 0},
		{-1, 1},
		{1, 2},
		{-2, 3},
		{2, 4},
		{-300, 599},
		{300, 600},
		{math.MaxInt - 1, math.MaxUint64 - 3},
		{math.MinInt + 1, math.MaxUint64 - 2},
		{math.MaxInt, math.MaxUint64 - 1},
		{math.MinInt, math.MaxUint64},
	} {
		if got := Zig(c.n); got != c.u {
			t.Errorf("Zig(%d) = %d, want %d", c.n, got, c.u)
		}
		if got := Zag(c.u); got != c.n {
			t.Errorf("Zag(%d) = %d, want %d", c.u, got, c.n)
		}
	}
}

// P1.2: Zig counts the numbers outwards from 0: of n, and one nearer to 0, it is two apart.
func TestZigSteps(t *testing.T) {
	for n := 1; n < 2000; n++ {
		if Zig(n) != Zig(n-1)+2 || Zig(-n-1) != Zig(-n)+2 {
			t.Fatalf("Zig around %d: %d, %d, %d, %d", n, Zig(n-1), Zig(n), Zig(-n), Zig(-n-1))
		}
	}
}

// P1.2: Bit tells the bit of its byte; false outside of the bytes.
func TestBit(t *testing.T) {
	for _, c := range []struct {
		b    []byte
		i    int
		want bool
	}{
		{[]byte{0, 4}, 10, true},
		{[]byte{0, 4}, 11, false},
		{[]byte{0, 4}, 9, false},
		{[]byte{0, 4}, 2, false},
		{[]byte{1}, 0, true},
		{[]byte{128}, 7, true},
		{[]byte{127}, 7, false},
		{[]byte{0, 128}, 15, true},
		{[]byte{255}, 8, false},
		{[]byte{255}, 15, false},
		{[]byte{255}, -1, false},
		{[]byte{255}, -7, false},
		{[]byte{255}, -8, false},
		{[]byte{255}, math.MinInt, false},
		{[]byte{255}, math.MaxInt, false},
		{nil, 0, false},
		{nil, -1, false},
		{[]byte{}, 0, false},
	} {
		if got := Bit(c.b, c.i); got != c.want {
			t.Errorf("Bit(%v, %d) = %v, want %v", c.b, c.i, got, c.want)
		}
	}
}

// P1.2: the room behind a list's end is no byte of it.
func TestBitLooksNotBehindTheEnd(t *testing.T) {
	b := []byte{0, 255}
	if Bit(b[:1], 8) {
		t.Error("a bit behind the end is told")
	}
}

// P1.2: the bits of a number's bytes are the number's.
func TestBitByNumber(t *testing.T) {
	for _, n := range numbers() {
		b := Put(n, 8)
		for i := range 64 {
			if got := Bit(b, i); got != (n/(1<<i)%2 == 1) {
				t.Fatalf("Bit(%v, %d) = %v", b, i, got)
			}
		}
	}
}

// P1.3: what is put is got, as far as width goes.
func TestPutIsGot(t *testing.T) {
	for _, n := range numbers() {
		for _, width := range places() {
			want := Low(n, 8*min(max(width, 0), 8))
			if got := Get(Put(n, width)); got != want {
				t.Fatalf("Get(Put(%d, %d)) = %d, want %d", n, width, got, want)
			}
		}
	}
}

// P1.3: turned and turned back a number is as it was.
func TestTurnedBack(t *testing.T) {
	for _, n := range numbers() {
		x := uint32(n)
		for _, k := range places() {
			if got := Turn(Turn(x, k), -k); got != x {
				t.Fatalf("Turn(Turn(%x, %d), %d) = %x", x, k, -k, got)
			}
		}
	}
}

// P1.3: Zag of Zig is the number, and Zig of Zag too.
func TestZagOfZig(t *testing.T) {
	for _, n := range append(places(), 1<<40, -1<<40, 1<<62, -1<<62) {
		if got := Zag(Zig(n)); got != n {
			t.Fatalf("Zag(Zig(%d)) = %d", n, got)
		}
	}
	for _, u := range numbers() {
		if got := Zig(Zag(u)); got != u {
			t.Fatalf("Zig(Zag(%d)) = %d", u, got)
		}
	}
}
