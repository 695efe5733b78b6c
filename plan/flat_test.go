package plan

import (
	"testing"

	"strandline/api"
)

// roomOf is a room of bytes that no other place's is, as long as n is below 200.
func roomOf(n int) []byte {
	l := scatter(room)
	l[0], l[room-1] = byte(n+1), byte(255-n)
	return l
}

// kinds are what may stand at the place i: sectors with the epoch and that place, and others that are near to them.
func kinds(epoch uint64, i int) []api.Sec {
	r := roomOf(i)
	l := []api.Sec{
		sealed(epoch, i, r), sealed(epoch, i, nil), sealed(epoch, i, r[:1]),
		{}, sealed(epoch, i+1, r), sealed(epoch, i-1, r), sealed(epoch, i+sectors, r), sealed(epoch, i+256, r), sealed(epoch, i+1<<16, r), sealed(epoch, i+1<<31, r), sealed(epoch, -1, r),
		sealed(epoch+1, i, r), sealed(epoch-1, i, r), sealed(epoch+1<<32, i, r), sealed(epoch^1<<63, i, r), sealed(^epoch, i, r), sealed(epoch>>8, i, r), sealed(epoch<<8, i, r),
		sealed(epoch+1, i+1, r), sealed(uint64(i), int(epoch), r), sealed(0, i, r), sealed(0, 0, r),
	}
	var mixed api.Sec
	copy(mixed[:], scatter(sector + i)[i:])
	l = append(l, mixed)
	for bit := range 8 * ahead {
		s := sealed(epoch, i, r)
		s[bit/8] ^= 1 << (bit % 8)
		l = append(l, s)
	}
	return l
}

// right are so many sectors, each with the epoch and its place.
func right(epoch uint64, count int) []api.Sec {
	var l []api.Sec
	for i := range count {
		l = append(l, sealed(epoch, i, roomOf(i)))
	}
	return l
}

// P16.1: Flat of three sectors, written out: the second one is of another epoch.
func TestFlatWrittenOut(t *testing.T) {
	l := []api.Sec{{0: 3, 12: 'a', 63: 'b'}, {0: 4, 8: 1, 12: 'c', 63: 'd'}, {0: 3, 8: 2, 12: 'e', 63: 'f'}}
	body, ok := make([]byte, 832), make([]bool, 16)
	body[0], body[51], body[104], body[155] = 'a', 'b', 'e', 'f'
	ok[0], ok[2] = true, true
	sameFlat(t, 3, l, body, ok)
	body, ok = make([]byte, 832), make([]bool, 16)
	body[52], body[103] = 'c', 'd'
	ok[1] = true
	sameFlat(t, 4, l, body, ok)
	sameFlat(t, 5, l, make([]byte, 832), make([]bool, 16))
}

// P16.1: Flat of no sectors has bytes 0 and falses alone.
func TestFlatNone(t *testing.T) {
	for _, epoch := range epochs() {
		for _, l := range [][]api.Sec{nil, {}, right(epoch, 20)[:0]} {
			sameFlat(t, epoch, l, make([]byte, 832), make([]bool, 16))
		}
	}
}

// P16.1: an empty sector is stamped with the epoch 0 and the place 0, and with nothing else.
func TestFlatEmpty(t *testing.T) {
	ok := make([]bool, 16)
	sameFlat(t, 1, make([]api.Sec, 16), make([]byte, 832), ok)
	ok[0] = true
	for _, n := range []int{1, 2, 16, 17, 40} {
		sameFlat(t, 0, make([]api.Sec, n), make([]byte, 832), ok)
	}
}

// P16.1: sectors that are stamped right, fewer than Data, just so many and more, by all epochs; those in the room behind the end play no part.
func TestFlatLengths(t *testing.T) {
	for _, epoch := range epochs() {
		for n := range 40 {
			l := right(epoch, 48)[:n]
			body, ok := make([]byte, 832), make([]bool, 16)
			for i := range min(n, 16) {
				copy(body[52*i:], roomOf(i))
				ok[i] = true
			}
			sameFlat(t, epoch, l, body, ok)
		}
	}
}

// P16.1: sectors that stand by any number of places before or behind their own one have no part in it.
func TestFlatMoved(t *testing.T) {
	for _, epoch := range epochs() {
		for by := 1; by < 2*sectors; by++ {
			for _, l := range [][]api.Sec{right(epoch, 64)[by:], append(scattered(by), right(epoch, 64)...)} {
				sameFlat(t, epoch, l, make([]byte, 832), make([]bool, 16))
			}
		}
	}
}

// scattered are sectors of any bytes.
func scattered(count int) []api.Sec {
	b := scatter(sector * count)
	var l []api.Sec
	for i := range count {
		l = append(l, api.Sec(b[sector*i:]))
	}
	return l
}

// P16.1: each kind of sector at each place, all others right.
func TestFlatKinds(t *testing.T) {
	for _, epoch := range epochs() {
		for i := range sectors {
			for _, s := range kinds(epoch, i) {
				l := right(epoch, sectors+2)
				l[i] = s
				body, ok := slowFlat(epoch, l)
				sameFlat(t, epoch, l, body, ok)
			}
		}
	}
}

// P16.1: a bit of the stamp that is another one, and nothing but that sector is told as 0 and false.
func TestFlatBits(t *testing.T) {
	for i := range sectors {
		for bit := range 8 * ahead {
			l := right(77, sectors)
			l[i][bit/8] ^= 1 << (bit % 8)
			body, ok := Flat(77, l)
			for k := range sectors {
				if ok[k] != (k != i) || (body[52*k] == byte(k+1)) != (k != i) || (body[52*k+51] == byte(255-k)) != (k != i) {
					t.Fatalf("the stamp's bit %d of sector %d: sector %d is %t", bit, i, k, ok[k])
				}
			}
		}
	}
}

// P16.1: mixtures of all kinds of sectors, of any length, by all epochs.
func TestFlatMixed(t *testing.T) {
	choices := scatter(40 * 60)
	for e, epoch := range epochs() {
		var at [40][]api.Sec
		for i := range at {
			at[i] = kinds(epoch, i)
		}
		for round := range 60 {
			var l []api.Sec
			for i := range (round*7 + e) % len(at) {
				n := int(choices[40*round+i])
				// Every second one is of the first kinds, which are stamped right.
				if n%2 == 0 {
					n /= 2
				} else {
					n %= 3
				}
				l = append(l, at[i][n%len(at[i])])
			}
			body, ok := slowFlat(epoch, l)
			sameFlat(t, epoch, l, body, ok)
		}
	}
}
