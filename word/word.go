// Package word is layer 1: numbers as bytes, and their bits.
package word

// Put tells the lowest width bytes of n, the lowest one first.
func Put(n uint64, width int) []byte {
	width = between(width, 8)
	b := make([]byte, width)
	for i := range width {
		b[i] = byte(n >> (8 * i))
	}
	return b
}

// Get tells the number whose bytes are the first eight of b; missing ones are 0.
func Get(b []byte) uint64 {
	var n uint64
	for i := range min(len(b), 8) {
		n |= uint64(b[i]) << (8 * i)
	}
	return n
}

// Turn tells x with its bits moved up by k, those that fall out coming in below.
func Turn(x uint32, k int) uint32 {
	// 2^64 is a multiple of 32, so a k below 0 is taken modulo 32 as well.
	up := uint(k) % 32
	return x<<up | x>>(32-up)
}

// Low tells x without its bits from the place bits on.
func Low(x uint64, bits int) uint64 {
	high := ^uint64(0) << between(bits, 64)
	return x &^ high
}

// Zig tells n as a number without a sign, small ones as small ones.
func Zig(n int) uint64 {
	if n < 0 {
		// One is added ahead of the sign's change: the least number has no opposite.
		return 2*uint64(-(n+1)) + 1
	}
	return 2 * uint64(n)
}

// Zag tells the n whose Zig is u.
func Zag(u uint64) int {
	half := int(u / 2)
	if u%2 == 1 {
		return -half - 1
	}
	return half
}

// Bit tells the bit i of b, as bytes one behind the other.
func Bit(b []byte, i int) bool {
	if i < 0 || i/8 >= len(b) {
		return false
	}
	return b[i/8]>>(i%8)&1 == 1
}

// between tells n as the nearer one of 0 and most.
func between(n, most int) int {
	return min(max(n, 0), most)
}
