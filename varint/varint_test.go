package varint

import (
	"math"
	"math/big"
	"slices"
	"testing"

	"strandline/api"
)

// edge is a number at a bound of a length, with its short bytes as they stand in no code but here.
type edge struct {
	n    uint64
	want []byte
}

// edges are the least and the greatest number of each length, and some between.
func edges() []edge {
	return []edge{
		{0, []byte{0}},
		{1, []byte{1}},
		{127, []byte{127}},
		{128, []byte{128, 1}},
		{129, []byte{129, 1}},
		{255, []byte{255, 1}},
		{256, []byte{128, 2}},
		{300, []byte{172, 2}},
		{1<<14 - 1, []byte{255, 127}},
		{1 << 14, []byte{128, 128, 1}},
		{1<<21 - 1, []byte{255, 255, 127}},
		{1 << 21, []byte{128, 128, 128, 1}},
		{1<<28 - 1, []byte{255, 255, 255, 127}},
		{1 << 28, []byte{128, 128, 128, 128, 1}},
		{1<<35 - 1, []byte{255, 255, 255, 255, 127}},
		{1 << 35, []byte{128, 128, 128, 128, 128, 1}},
		{1<<42 - 1, []byte{255, 255, 255, 255, 255, 127}},
		{1 << 42, []byte{128, 128, 128, 128, 128, 128, 1}},
		{1<<49 - 1, []byte{255, 255, 255, 255, 255, 255, 127}},
		{1 << 49, []byte{128, 128, 128, 128, 128, 128, 128, 1}},
		{1<<56 - 1, []byte{255, 255, 255, 255, 255, 255, 255, 127}},
		{1 << 56, []byte{128, 128, 128, 128, 128, 128, 128, 128, 1}},
		{1<<63 - 1, []byte{255, 255, 255, 255, 255, 255, 255, 255, 127}},
		{1 << 63, []byte{128, 128, 128, 128, 128, 128, 128, 128, 128, 1}},
		{math.MaxUint64 - 1, []byte{254, 255, 255, 255, 255, 255, 255, 255, 255, 1}},
		{math.MaxUint64, []byte{255, 255, 255, 255, 255, 255, 255, 255, 255, 1}},
	}
}

// scatter tells numbers that look like any, the same ones in each run.
func scatter(count int) []uint64 {
	var l []uint64
	n := uint64(88172645463325252)
	for range count {
		n ^= n << 13
		n ^= n >> 7
		n ^= n << 17
		l = append(l, n)
	}
	return l
}

// numbers are those of edges, those next to each power of two, and of each width some others.
func numbers() []uint64 {
	var l []uint64
	for _, c := range edges() {
		l = append(l, c.n)
	}
	for i := range 64 {
		l = append(l, 1<<i, 1<<i-1, 1<<i+1)
	}
	for i, n := range scatter(3000) {
		l = append(l, n>>(i%64))
	}
	return l
}

// shortBytes are a number's short bytes, by division of a number of any size.
func shortBytes(n uint64) []byte {
	var b []byte
	left, part := new(big.Int).SetUint64(n), new(big.Int)
	for {
		left.DivMod(left, big.NewInt(128), part)
		if left.Sign() == 0 {
			return append(b, byte(part.Int64()))
		}
		b = append(b, byte(part.Int64()+128))
	}
}

// slowGet is what the chapter says of Get, byte by byte, with a number of any size.
func slowGet(b []byte) (uint64, int, api.Errno) {
	n, unit, over := new(big.Int), big.NewInt(1), new(big.Int).Lsh(big.NewInt(1), 64)
	for i := 0; ; i++ {
		if i >= len(b) {
			return 0, 0, api.ErrShort
		}
		x := int64(b[i])
		n.Add(n, new(big.Int).Mul(unit, big.NewInt(x%128)))
		unit.Mul(unit, big.NewInt(128))
		if n.Cmp(over) >= 0 || i == 9 && x > 1 {
			return 0, 0, api.ErrRange
		}
		if i > 0 && x == 0 {
			return 0, 0, api.ErrForm
		}
		if x < 128 {
			return n.Uint64(), i + 1, api.OK
		}
	}
}

// slowAll goes on with slowGet till nothing is left.
func slowAll(b []byte) ([]uint64, api.Errno) {
	var l []uint64
	for len(b) > 0 {
		n, size, e := slowGet(b)
		if e != api.OK {
			return nil, e
		}
		l, b = append(l, n), b[size:]
	}
	return l, api.OK
}

// texts are bytes of all kinds: all of up to two, those of up to six that are made of the telling bytes, those around a tenth byte, and long ones.
func texts() [][]byte {
	l := [][]byte{nil}
	for x := range 256 {
		l = append(l, []byte{byte(x)})
	}
	for x := range 1 << 16 {
		l = append(l, []byte{byte(x), byte(x >> 8)})
	}
	grown := [][]byte{nil}
	for range 6 {
		var next [][]byte
		for _, b := range grown {
			for _, x := range []byte{0, 1, 2, 127, 128, 129, 255} {
				next = append(next, append(slices.Clone(b), x))
			}
		}
		l, grown = append(l, next...), next
	}
	for _, x := range []byte{128, 129, 200, 255} {
		for size := 7; size <= 12; size++ {
			ahead := slices.Repeat([]byte{x}, size)
			for y := range 256 {
				l = append(l, append(slices.Clone(ahead), byte(y)), append(slices.Clone(ahead), byte(y), 0, 5))
			}
		}
	}
	return append(l, longTexts()...)
}

// longTexts are numbers' short bytes, one behind the other, each text with one byte changed, or none.
func longTexts() [][]byte {
	var l [][]byte
	var b []byte
	for i, n := range scatter(6000) {
		b = append(b, shortBytes(n>>(n%64))...)
		if i%6 == 5 {
			l = append(l, b)
			changed := slices.Clone(b)
			changed[int(n>>40)%len(b)] = byte(n >> 32)
			l = append(l, changed)
			b = nil
		}
	}
	return l
}

// roomy is b, with bytes behind its end that are not its own.
func roomy(b []byte) []byte {
	whole := append(slices.Clone(b), 171, 172, 173, 174, 175, 176, 177, 178, 179, 180, 181, 182)
	return whole[:len(b)]
}

// The chapter's example.
func TestExample(t *testing.T) {
	if got := Put(nil, 300); !slices.Equal(got, []byte{172, 2}) {
		t.Errorf("Put of 300 = %v, want 172, 2", got)
	}
}

// P2.1: the short bytes at the bounds of each length.
func TestPutEdges(t *testing.T) {
	for _, c := range edges() {
		if got := Put(nil, c.n); !slices.Equal(got, c.want) {
			t.Errorf("Put(nil, %d) = %v, want %v", c.n, got, c.want)
		}
	}
}

// P2.1: the short bytes of any number.
func TestPutByDivision(t *testing.T) {
	for _, n := range numbers() {
		if got := Put(nil, n); !slices.Equal(got, shortBytes(n)) {
			t.Fatalf("Put(nil, %d) = %v, want %v", n, got, shortBytes(n))
		}
	}
}

// P2.1: each small number, one by one.
func TestPutSmall(t *testing.T) {
	for n := range uint64(70000) {
		if got := Put(nil, n); !slices.Equal(got, shortBytes(n)) || Size(n) != len(got) {
			t.Fatalf("Put(nil, %d) = %v, Size %d, want %v", n, got, Size(n), shortBytes(n))
		}
	}
}

// P2.1: they stand behind any bytes, which stay as they are.
func TestPutBehind(t *testing.T) {
	long := make([]byte, 5000)
	for i := range long {
		long[i] = byte(i * 7)
	}
	for _, b := range [][]byte{nil, {}, {0}, {128}, {255, 255, 255}, {1, 2, 3, 4, 5}, long} {
		for _, c := range edges() {
			want := slices.Concat(b, c.want)
			if got := Put(b, c.n); !slices.Equal(got, want) {
				t.Fatalf("Put(%v, %d) = %v, want %v", b, c.n, got, want)
			}
		}
	}
}

// P2.1: Put's answer is new memory, and neither b nor the room behind its end is changed.
func TestPutIsNew(t *testing.T) {
	for _, start := range [][]byte{nil, {}, {9, 8, 7}} {
		for _, c := range edges() {
			b := roomy(start)
			whole := slices.Clone(b[:cap(b)])
			first, second := Put(b, c.n), Put(b, c.n)
			if !slices.Equal(b[:cap(b)], whole) {
				t.Fatalf("Put(%v, %d) changed what it was given to %v", start, c.n, b[:cap(b)])
			}
			for i := range first {
				first[i] ^= 255
			}
			if !slices.Equal(b[:cap(b)], whole) {
				t.Fatalf("Put(%v, %d) shares what it was given", start, c.n)
			}
			if !slices.Equal(second, slices.Concat(start, c.want)) {
				t.Fatalf("Put(%v, %d): two answers share memory", start, c.n)
			}
		}
	}
}

// P2.1: a change of what was handed in, later on, is not seen in the answer.
func TestPutKeepsNothing(t *testing.T) {
	b := roomy([]byte{1, 2, 3})
	got := Put(b, 300)
	for i := range b[:cap(b)] {
		b[:cap(b)][i] = 0
	}
	if !slices.Equal(got, []byte{1, 2, 3, 172, 2}) {
		t.Errorf("the answer became %v", got)
	}
}

// P2.1: Size at the bounds of each length, the greatest number among them.
func TestSizeEdges(t *testing.T) {
	for _, c := range edges() {
		if got := Size(c.n); got != len(c.want) {
			t.Errorf("Size(%d) = %d, want %d", c.n, got, len(c.want))
		}
	}
}

// P2.1: Size of any number is how many short bytes it has.
func TestSize(t *testing.T) {
	for _, n := range numbers() {
		if got := Size(n); got != len(shortBytes(n)) {
			t.Fatalf("Size(%d) = %d, want %d", n, got, len(shortBytes(n)))
		}
	}
}

// P2.2: what Get tells, and each of its errors, where the chapter names it.
func TestGet(t *testing.T) {
	nine := func(x byte, behind ...byte) []byte {
		return append(slices.Repeat([]byte{x}, 9), behind...)
	}
	for _, c := range []struct {
		why  string
		b    []byte
		n    uint64
		size int
		e    api.Errno
	}{
		{"no bytes", nil, 0, 0, api.ErrShort},
		{"empty bytes", []byte{}, 0, 0, api.ErrShort},
		{"nothing", []byte{0}, 0, 1, api.OK},
		{"nothing, with zeros behind", []byte{0, 0, 0}, 0, 1, api.OK},
		{"one byte, and others behind", []byte{5, 128, 9}, 5, 1, api.OK},
		{"the greatest of one byte", []byte{127}, 127, 1, api.OK},
		{"the example", []byte{172, 2}, 300, 2, api.OK},
		{"the example, and more", []byte{172, 2, 0, 255}, 300, 2, api.OK},
		{"a middle byte without bits", []byte{129, 128, 1}, 1<<14 + 1, 3, api.OK},
		{"b ends behind one byte", []byte{128}, 0, 0, api.ErrShort},
		{"b ends behind one full byte", []byte{255}, 0, 0, api.ErrShort},
		{"b ends behind nine bytes", nine(128), 0, 0, api.ErrShort},
		{"b ends behind nine full bytes", nine(255), 0, 0, api.ErrShort},
		{"a last byte 0", []byte{128, 0}, 0, 0, api.ErrForm},
		{"a last byte 0 behind bits", []byte{255, 0}, 0, 0, api.ErrForm},
		{"a last byte 0, and others behind", []byte{172, 130, 0, 7}, 0, 0, api.ErrForm},
		{"a ninth byte 0", append(slices.Repeat([]byte{255}, 8), 0), 0, 0, api.ErrForm},
		{"a tenth byte 0", nine(255, 0), 0, 0, api.ErrForm},
		{"a tenth byte 1", nine(128, 1), 1 << 63, 10, api.OK},
		{"the greatest number", nine(255, 1), math.MaxUint64, 10, api.OK},
		{"the greatest number, and more", nine(255, 1, 255, 255), math.MaxUint64, 10, api.OK},
		{"a tenth byte 2", nine(128, 2), 0, 0, api.ErrRange},
		{"a tenth byte 127", nine(255, 127), 0, 0, api.ErrRange},
		{"a tenth byte 128, and the end", nine(128, 128), 0, 0, api.ErrRange},
		{"a tenth byte 128, and a last one 0", nine(128, 128, 0), 0, 0, api.ErrRange},
		{"a tenth byte 129, and the end", nine(255, 129), 0, 0, api.ErrRange},
		{"a tenth byte 129, and one more", nine(255, 129, 1), 0, 0, api.ErrRange},
		{"many bytes", slices.Repeat([]byte{255}, 1000), 0, 0, api.ErrRange},
		{"many bytes without bits", append(slices.Repeat([]byte{128}, 1000), 1), 0, 0, api.ErrRange},
	} {
		n, size, e := Get(c.b)
		if n != c.n || size != c.size || e != c.e {
			t.Errorf("%s: Get(%v) = %d, %d, %d, want %d, %d, %d", c.why, c.b, n, size, e, c.n, c.size, c.e)
		}
	}
}

// P2.2: Get tells of any bytes what the chapter's words, gone through one by one, tell.
func TestGetByWords(t *testing.T) {
	seen := map[api.Errno]int{}
	for _, b := range texts() {
		n, size, e := Get(b)
		wantN, wantSize, wantE := slowGet(b)
		if n != wantN || size != wantSize || e != wantE {
			t.Fatalf("Get(%v) = %d, %d, %d, want %d, %d, %d", b, n, size, e, wantN, wantSize, wantE)
		}
		seen[e]++
	}
	for _, e := range []api.Errno{api.OK, api.ErrShort, api.ErrRange, api.ErrForm} {
		if seen[e] < 100 {
			t.Errorf("just %d texts answer %d", seen[e], e)
		}
	}
}

// P2.2: of each beginning of a number's short bytes Get is short.
func TestGetOfBeginnings(t *testing.T) {
	for _, n := range numbers() {
		b := shortBytes(n)
		for i := range b {
			if got, size, e := Get(b[:i]); got != 0 || size != 0 || e != api.ErrShort {
				t.Fatalf("Get(%v) = %d, %d, %d, want ErrShort", b[:i], got, size, e)
			}
		}
	}
}

// P2.2: neither Get nor All looks at the room behind the end, and neither changes what it is given.
func TestGetLooksNotBehindTheEnd(t *testing.T) {
	b := []byte{172, 2, 128, 1}
	was := slices.Clone(b)
	if n, size, e := Get(b[:1]); n != 0 || size != 0 || e != api.ErrShort {
		t.Errorf("Get of the first byte alone = %d, %d, %d", n, size, e)
	}
	if l, e := All(b[:3]); len(l) != 0 || e != api.ErrShort {
		t.Errorf("All of three bytes = %v, %d", l, e)
	}
	if l, e := All(b[:2]); !slices.Equal(l, []uint64{300}) || e != api.OK {
		t.Errorf("All of two bytes = %v, %d", l, e)
	}
	if !slices.Equal(b, was) {
		t.Errorf("%v was changed to %v", was, b)
	}
}

// P2.2: All tells all numbers, or none and Get's first error.
func TestAll(t *testing.T) {
	ten := func(x byte) []byte { return append(slices.Repeat([]byte{255}, 9), x) }
	for _, c := range []struct {
		why  string
		b    []byte
		want []uint64
		e    api.Errno
	}{
		{"no bytes", nil, nil, api.OK},
		{"empty bytes", []byte{}, nil, api.OK},
		{"one number", []byte{172, 2}, []uint64{300}, api.OK},
		{"zeros", []byte{0, 0, 0}, []uint64{0, 0, 0}, api.OK},
		{"three numbers", []byte{172, 2, 0, 127}, []uint64{300, 0, 127}, api.OK},
		{"the greatest one twice", slices.Concat(ten(1), ten(1)), []uint64{math.MaxUint64, math.MaxUint64}, api.OK},
		{"an end at once", []byte{128}, nil, api.ErrShort},
		{"an end behind a number", []byte{5, 172}, nil, api.ErrShort},
		{"a last byte 0 behind numbers", []byte{5, 6, 128, 0}, nil, api.ErrForm},
		{"one too great behind a number", append([]byte{5}, ten(2)...), nil, api.ErrRange},
		{"ErrForm ahead of ErrShort", []byte{128, 0, 128}, nil, api.ErrForm},
		{"ErrForm ahead of ErrRange", append([]byte{128, 0}, ten(2)...), nil, api.ErrForm},
		{"ErrRange ahead of ErrForm", append(ten(2), 128, 0), nil, api.ErrRange},
		{"ErrRange ahead of ErrShort", append(ten(2), 128), nil, api.ErrRange},
	} {
		l, e := All(c.b)
		if !slices.Equal(l, c.want) || e != c.e {
			t.Errorf("%s: All(%v) = %v, %d, want %v, %d", c.why, c.b, l, e, c.want, c.e)
		}
	}
}

// P2.2: All tells of any bytes what Get tells, one behind the other.
func TestAllByWords(t *testing.T) {
	for _, b := range texts() {
		l, e := All(b)
		want, wantE := slowAll(b)
		if !slices.Equal(l, want) || e != wantE {
			t.Fatalf("All(%v) = %v, %d, want %v, %d", b, l, e, want, wantE)
		}
	}
}

// P2.2: two answers of All share no memory.
func TestAllIsNew(t *testing.T) {
	b := []byte{172, 2, 7}
	first, _ := All(b)
	second, _ := All(b)
	first[0] = 99
	if !slices.Equal(second, []uint64{300, 7}) || !slices.Equal(b, []byte{172, 2, 7}) {
		t.Errorf("a change of one answer is seen in %v, %v", second, b)
	}
}

// P2.3: what is put is got, whatever stands behind it.
func TestPutIsGot(t *testing.T) {
	behind := [][]byte{nil, {0}, {1}, {127}, {128}, {255}, {0, 0}, {128, 0}, slices.Repeat([]byte{255}, 20)}
	for _, n := range numbers() {
		for _, x := range behind {
			b := append(Put(nil, n), x...)
			got, size, e := Get(b)
			if got != n || size != Size(n) || e != api.OK {
				t.Fatalf("Get(%v) = %d, %d, %d, want %d, %d", b, got, size, e, n, Size(n))
			}
		}
	}
}

// P2.3: what is put one behind the other is all got.
func TestPutsAreAllGot(t *testing.T) {
	want := numbers()
	var b []byte
	for _, n := range want {
		b = Put(b, n)
	}
	if got, e := All(b); !slices.Equal(got, want) || e != api.OK {
		t.Errorf("All of %d numbers tells %d, %d", len(want), len(got), e)
	}
}

// P2.3: what is got is put by the same bytes.
func TestGotIsPut(t *testing.T) {
	for _, b := range texts() {
		n, size, e := Get(b)
		if e == api.OK && !slices.Equal(Put(nil, n), b[:size]) {
			t.Fatalf("Get(%v) = %d, put as %v", b, n, Put(nil, n))
		}
		l, e := All(b)
		var again []byte
		for _, x := range l {
			again = Put(again, x)
		}
		if e == api.OK && !slices.Equal(again, b) {
			t.Fatalf("All(%v) = %v, put as %v", b, l, again)
		}
	}
}
