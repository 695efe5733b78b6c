package plan

import (
	"math"
	"slices"
	"testing"

	"strandline/api"
)

// sectorsOf counts the sectors of which one of the places from 0 on, below end, is.
func sectorsOf(end int) int {
	count := 0
	for _, is := range touched(0, end) {
		if is {
			count++
		}
	}
	return count
}

// padded are the body's bytes as far as the end of the sector of end, and bytes 0 behind, SegRoom in all.
func padded(body []byte, end int) []byte {
	l := make([]byte, all)
	for at := range room * sectorsOf(end) {
		if at < len(body) {
			l[at] = body[at]
		}
	}
	return l
}

// ends are all places, and those beyond.
func ends() []int {
	l := beyond()
	for at := range all + 1 {
		l = append(l, at)
	}
	return l
}

// P16.3: Flat of Whole has the body's bytes up to the end of the sector of end, bytes 0 behind it, and just these sectors.
func TestFlatOfWhole(t *testing.T) {
	for i, body := range bodies() {
		for _, epoch := range []uint64{1, 1<<64 - 1, epochs()[1:][i%(len(epochs())-1)]} {
			for _, end := range ends() {
				ok := make([]bool, sectors)
				for i := range sectorsOf(end) {
					ok[i] = true
				}
				sameFlat(t, epoch, Whole(epoch, body, end), padded(body, end), ok)
			}
		}
	}
}

// P16.3: by the epoch 0 the same, but that an empty sector is stamped with that epoch and the place 0: the first one is told so without any place.
func TestFlatOfWholeZero(t *testing.T) {
	for _, body := range bodies() {
		for _, end := range ends() {
			ok := make([]bool, sectors)
			ok[0] = true
			for i := range sectorsOf(end) {
				ok[i] = true
			}
			sameFlat(t, 0, Whole(0, body, end), padded(body, end), ok)
		}
	}
}

// P16.3: Flat by another epoch of what is told by one has nothing.
func TestFlatOfOther(t *testing.T) {
	body := scatter(all)
	for _, epoch := range epochs() {
		for _, other := range epochs() {
			if other != epoch {
				sameFlat(t, other, Whole(epoch, body, all), make([]byte, all), make([]bool, sectors))
			}
		}
	}
}

// P16.3: what Flat of Whole has is covered from 0 up to the end of the sector of end, and no byte more is.
func TestCoveredOfWhole(t *testing.T) {
	body := scatter(all)
	for end := 1; end <= all; end++ {
		_, ok := Flat(4, Whole(4, body, end))
		last := room * sectorsOf(end)
		if !Covered(ok, 0, end) || !Covered(ok, 0, last) || last < all && (Covered(ok, 0, last+1) || Covered(ok, last, last+1)) {
			t.Errorf("Whole to %d: the bools are %v", end, ok)
		}
	}
}

// laid are the sectors l, with others over them from the first one on.
func laid(l []api.Sec, first int, over []api.Sec) []api.Sec {
	l = slices.Clone(l)
	for i, s := range over {
		l[first+i] = s
	}
	return l
}

// turned is the body, with all bits of its bytes from from on, below to, turned; just those from 0 on, below SegRoom, are its own.
func turned(body []byte, from, to int) []byte {
	l := slices.Clone(body)
	for at := range l {
		if from <= at && at < to {
			l[at] = ^l[at]
		}
	}
	return l
}

// P16.3: what Write changes is what lies from from on, below to, in the sectors: of two bodies that differ there alone, the sectors of the one, with those that Write tells of the other laid over them, are the other's.
func TestWriteChanges(t *testing.T) {
	body := scatter(all)
	for _, epoch := range []uint64{0, 1, 1<<64 - 1} {
		old := Whole(epoch, body, all)
		for _, from := range bounds() {
			for _, to := range bounds() {
				next := turned(body, from, to)
				first, l := Write(epoch, next, from, to)
				over := laid(old, first, l)
				got, ok := Flat(epoch, over)
				if !slices.Equal(got, next) || slices.Contains(ok, false) || !slices.Equal(over, Whole(epoch, next, all)) {
					t.Fatalf("Write(%d, from %d to %d) lays another body", epoch, from, to)
				}
			}
		}
	}
}

// P16.3: of a body that differs all over just the sectors with places from from on, below to, are told, and all of their bytes.
func TestWriteTouches(t *testing.T) {
	body := scatter(all)
	other := turned(body, 0, all)
	old := Whole(8, body, all)
	for _, from := range bounds() {
		for _, to := range bounds() {
			first, l := Write(8, other, from, to)
			got, _ := Flat(8, laid(old, first, l))
			is := touched(from, to)
			for at := range all {
				want := body[at]
				if is[at/room] {
					want = other[at]
				}
				if got[at] != want {
					t.Fatalf("Write(from %d to %d) lays %d at %d, not %d", from, to, got[at], at, want)
				}
			}
		}
	}
}

// P16.3: what goes on from an end to a next one, laid over the whole to that end, is the whole to the next one.
func TestWriteGoesOn(t *testing.T) {
	body := scatter(all)
	for _, epoch := range []uint64{0, 2, 1 << 63} {
		for _, end := range bounds() {
			old := Whole(epoch, body, end)
			for _, next := range bounds() {
				if next < end {
					continue
				}
				first, l := Write(epoch, body, end, next)
				if !slices.Equal(laid(old, first, l), Whole(epoch, body, next)) {
					t.Fatalf("from %d to %d: another whole", end, next)
				}
			}
		}
	}
}

// P16.2: Whole to SegRoom, and Write of all, are one.
func TestWholeIsWrite(t *testing.T) {
	for _, epoch := range epochs() {
		for _, body := range bodies() {
			first, l := Write(epoch, body, math.MinInt, math.MaxInt)
			if first != 0 || !slices.Equal(l, Whole(epoch, body, all)) {
				t.Fatalf("Write(%d) of %d bytes isn't Whole", epoch, len(body))
			}
		}
	}
}
