package image

import (
	"math"
	"slices"
	"testing"
)

// P17.2: Add written out, to a body of bytes 9: its other bytes are as they were.
func TestAddWrittenOut(t *testing.T) {
	nines := slices.Repeat([]byte{9}, 900)
	none := []byte{243, 172, 116, 188, 0, 0, 1, 3, 0, 0, 0}
	ab := []byte{232, 28, 235, 184, 2, 0, 1, 3, 0, 0, 0, 'a', 'b'}
	// A first piece without bytes, and the last one in the next block.
	split := []byte{84, 61, 156, 26, 0, 0, 2, 3, 0, 0, 0, 96, 133, 243, 243, 1, 0, 4, 3, 0, 0, 0, 'c'}
	for _, c := range []struct {
		at     int
		data   []byte
		place  int
		bytes  []byte
		behind int
	}{
		{0, nil, 0, none, 11},
		{0, []byte{}, 0, none, 11},
		{-1, nil, 0, none, 11},
		{math.MinInt, []byte("ab"), 0, ab, 13},
		{1, []byte("ab"), 1, ab, 14},
		{40, []byte("ab"), 40, ab, 53},
		{41, []byte("ab"), 41, ab, 54},
		{42, []byte("ab"), 52, ab, 65},
		{51, []byte("ab"), 52, ab, 65},
		{52, []byte("ab"), 52, ab, 65},
		{53, []byte("ab"), 53, ab, 66},
		{195, []byte("ab"), 195, ab, 208},
		{197, nil, 197, none, 208},
		{197, []byte("c"), 197, split, 220},
		{198, []byte("ab"), 208, ab, 221},
		{207, []byte("ab"), 208, ab, 221},
		{208, []byte("ab"), 208, ab, 221},
		{209, []byte("ab"), 209, ab, 222},
		{405, []byte("c"), 405, split, 428},
		{613, []byte("c"), 613, split, 636},
		{769, []byte("ab"), 769, ab, 782},
		{770, []byte("ab"), 780, ab, 793},
		{819, []byte("ab"), 819, ab, 832},
		{820, nil, 820, none, 831},
		{821, nil, 821, none, 832},
	} {
		for _, epoch := range []uint64{3, 1<<32 + 3, 1<<64 - 1<<32 + 3} {
			for _, n := range []int{832, 833, 900} {
				want := slices.Concat(nines[:c.place], c.bytes, nines[:832-c.place-len(c.bytes)])
				got, behind, ok := Add(epoch, nines[:n], c.at, c.data)
				if !ok || behind != c.behind || !slices.Equal(got, want) {
					t.Errorf("Add(%d, %d nines, %d, %d bytes): %d, %t, %s", epoch, n, c.at, len(c.data), behind, ok, differ(got, want))
				}
			}
		}
	}
}

// P17.2: none, 0 and false where the fragments don't fit, written out.
func TestAddNoRoom(t *testing.T) {
	for _, c := range []struct{ at, n int }{
		{0, 789}, {0, 832}, {0, 1 << 20}, {-1, 789}, {math.MinInt, 789}, {1, 788}, {41, 748}, {42, 737}, {52, 737}, {197, 592}, {198, 592}, {208, 592}, {612, 199}, {613, 198}, {614, 198}, {624, 198}, {780, 42},
		{810, 12}, {820, 2}, {821, 1}, {822, 0}, {822, 1}, {831, 0}, {832, 0}, {832, 5}, {833, 0}, {1 << 32, 0}, {math.MaxInt - 832, 0}, {math.MaxInt, 0}, {math.MaxInt, 788},
	} {
		for i, body := range bodies() {
			epoch := epochs()[i%len(epochs())]
			got, behind, ok := Add(epoch, body, c.at, mixed(i, c.n))
			if got != nil || behind != 0 || ok {
				t.Errorf("Add(%d, %d bytes, %d, %d bytes) = %d bytes, %d, %t", epoch, len(body), c.at, c.n, len(got), behind, ok)
			}
		}
	}
}

// P17.2: the greatest lengths that fit, written out; they fit just to the end.
func TestAddMost(t *testing.T) {
	for _, c := range []struct{ at, n int }{
		{-1, 788}, {0, 788}, {1, 787}, {41, 747}, {42, 736}, {52, 736}, {53, 735}, {197, 591}, {198, 591}, {208, 591}, {300, 499}, {416, 394}, {613, 197}, {614, 197}, {624, 197}, {780, 41}, {800, 21}, {820, 1}, {821, 0},
	} {
		data := mixed(c.n, c.n)
		_, behind, ok := Add(1, nil, c.at, data)
		if behind != 832 || !ok {
			t.Errorf("Add(%d, %d bytes) = %d, %t", c.at, c.n, behind, ok)
		}
		sameAdd(t, 1, nil, c.at, data)
	}
}

// P17.2: at each place, data of all lengths, to a body of any bytes.
func TestAddPlaces(t *testing.T) {
	bodies := bodies()
	for _, at := range append(places(), beyond()...) {
		for i, n := range append(lengths(), tooLong()[:6]...) {
			which := (i + at&1023) % 1000
			sameAdd(t, epochs()[which%len(epochs())], bodies[which%len(bodies)], at, mixed(which, n))
		}
	}
}

// P17.2: to each body, at the edges.
func TestAddBodies(t *testing.T) {
	for i, body := range bodies() {
		for k, at := range edges() {
			epoch := epochs()[(i+k)%len(epochs())]
			for _, n := range []int{0, 1, 30, 197, 198, 788} {
				sameAdd(t, epoch, body, at, mixed(k, n))
			}
		}
	}
}

// P17.2: data of each length, at some places.
func TestAddLengths(t *testing.T) {
	body := roomy(mixed(1, 832))
	for n := range whole + 50 {
		for _, at := range []int{-5, 0, 1, 41, 42, 52, 197, 198, 300, 416, 613, 821, 822} {
			sameAdd(t, epochs()[n%len(epochs())], body, at, mixed(n, n))
		}
	}
}

// P17.2: by all epochs a fragment bears the lowest 32 bits.
func TestAddEpochs(t *testing.T) {
	for _, epoch := range epochs() {
		for _, at := range []int{0, 197, 700} {
			for _, n := range []int{0, 1, 100, 300} {
				sameAdd(t, epoch, slices.Repeat([]byte{77}, 832), at, mixed(n, n))
				got, _, _ := Add(epoch, nil, at, mixed(n, n))
				other, _, _ := Add(epoch^1<<32, nil, at, mixed(n, n))
				if !slices.Equal(got, other) {
					t.Errorf("Add(%d) at %d: of the epoch's upper bits there is something", epoch, at)
				}
			}
		}
	}
}

// P17.2: what is added to itself: data that are a part of the body.
func TestAddOfItself(t *testing.T) {
	for _, at := range []int{0, 1, 100, 197, 300} {
		for _, from := range []int{0, 5, 50, 100, 208, 600} {
			body := roomy(mixed(3, 832))
			want, behind, fits := slowAdd(8, slices.Clone(body), at, slices.Clone(body[from:from+220]))
			got, end, ok := Add(8, body, at, body[from:from+220])
			if !slices.Equal(got, want) || end != behind || ok != fits || !slices.Equal(body, mixed(3, 832)) {
				t.Errorf("Add at %d of the body's bytes from %d on: %d, %t, %s", at, from, end, ok, differ(got, want))
			}
		}
	}
}
