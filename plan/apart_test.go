package plan

import (
	"slices"
	"testing"

	"strandline/api"
)

// spoilBytes turns all bits of b, and of the room behind its end.
func spoilBytes(b []byte) {
	for i := range b[:cap(b)] {
		b[:cap(b)][i] ^= 255
	}
}

// spoilSectors turns all bits of l's sectors, and of those in the room behind its end.
func spoilSectors(l []api.Sec) {
	for i := range l[:cap(l)] {
		spoilBytes(l[:cap(l)][i][:])
	}
}

// spoilBools turns l's bools, and those in the room behind its end.
func spoilBools(l []bool) {
	for i := range l[:cap(l)] {
		l[:cap(l)][i] = !l[:cap(l)][i]
	}
}

// P16.1: the sectors that Flat is given, and the room behind their end, stay as they were; its answers are new memory.
func TestFlatApart(t *testing.T) {
	for _, n := range []int{0, 1, 15, 16, 17, 40} {
		l := append(right(3, n), scattered(20)...)[:n]
		was := whole(l)
		body, ok := Flat(3, l)
		wantBody, wantOK := slices.Clone(body), slices.Clone(ok)
		other, otherOK := Flat(3, l)
		spoilBytes(other)
		spoilBools(otherOK)
		if !slices.Equal(whole(l), was) {
			t.Errorf("Flat of %d sectors changed them", n)
		}
		spoilSectors(l)
		if !slices.Equal(body, wantBody) || !slices.Equal(ok, wantOK) {
			t.Errorf("Flat of %d sectors: its answer isn't new memory", n)
		}
		l = append(right(3, n), scattered(20)...)[:n]
		sameFlat(t, 3, l, wantBody, wantOK)
	}
}

// P16.1: the bools that Covered is given, and the room behind their end, stay as they were.
func TestCoveredApart(t *testing.T) {
	for _, n := range []int{0, 1, 15, 16, 17, 40} {
		ok := append(slices.Repeat([]bool{true}, n), false, true, false)[:n]
		was := whole(ok)
		for _, end := range []int{-1, 0, 1, 52, 53, 800, 832, 833} {
			Covered(ok, 0, end)
			Covered(ok, end, 832)
		}
		if !slices.Equal(whole(ok), was) {
			t.Errorf("Covered of %d bools changed them", n)
		}
	}
}

// P16.2: the body that Write and Whole are given, and the room behind its end, stay as they were; their answers are new memory.
func TestWriteApart(t *testing.T) {
	for _, n := range lengths() {
		body := roomy(scatter(n))
		was := whole(body)
		for _, c := range [][2]int{{0, 0}, {0, 1}, {50, 60}, {104, 416}, {780, 832}, {0, 832}, {800, 900}} {
			first, l := Write(3, body, c[0], c[1])
			all := Whole(3, body, c[1])
			want, wantAll := slices.Clone(l), slices.Clone(all)
			_, other := Write(3, body, c[0], c[1])
			spoilSectors(other)
			spoilSectors(Whole(3, body, c[1]))
			if !slices.Equal(whole(body), was) {
				t.Errorf("Write of %d bytes from %d to %d changed them", n, c[0], c[1])
			}
			spoilBytes(body)
			if !slices.Equal(l, want) || !slices.Equal(all, wantAll) {
				t.Errorf("Write of %d bytes from %d to %d: its answer isn't new memory", n, c[0], c[1])
			}
			spoilBytes(body)
			sameWrite(t, 3, body, c[0], c[1], first, want)
			sameWhole(t, 3, body, c[1], wantAll)
		}
	}
}

// P16.1, P16.2: what is answered may be added to, and nothing of another answer changes.
func TestGrowApart(t *testing.T) {
	body := scatter(all)
	_, a := Write(3, body, 0, 200)
	b := Whole(3, body, 200)
	flat, ok := Flat(3, b)
	wantA, wantB, wantFlat, wantOK := slices.Clone(a), slices.Clone(b), slices.Clone(flat), slices.Clone(ok)
	for range 40 {
		_ = append(a, scattered(1)...)
		_ = append(b, scattered(1)...)
		_ = append(flat, 1, 2, 3)
		_ = append(ok, true)
	}
	sameWrite(t, 3, body, 0, 200, 0, wantA)
	sameWhole(t, 3, body, 200, wantB)
	sameFlat(t, 3, b, wantFlat, wantOK)
}

// P16.2: a sector's part of a body has no room behind its end.
func TestPart(t *testing.T) {
	for _, n := range lengths() {
		body := roomy(scatter(n))
		for i := range sectors {
			p := part(body, i)
			if want := min(max(n-room*i, 0), room); len(p) != want || cap(p) != want {
				t.Errorf("part %d of %d bytes has %d, with room for %d, not %d", i, n, len(p), cap(p), want)
			}
		}
	}
}
