package plan

import (
	"math"
	"slices"
	"testing"
)

// trues are so many bools, all true, with room behind that is true too.
func trues(count int) []bool {
	return slices.Repeat([]bool{true}, count+20)[:count]
}

// P16.1: Covered at the bounds, written out; ok has 16 trues, but for one false (none, if it is -1).
func TestCoveredWrittenOut(t *testing.T) {
	for _, c := range []struct {
		without, from, to int
		want              bool
	}{
		{-1, 0, 832, true},
		{-1, math.MinInt, math.MaxInt, true},
		{0, 0, 1, false},
		{0, -5, 1, false},
		{0, 51, 52, false},
		{0, 51, 53, false},
		{0, 52, 832, true},
		{0, 52, math.MaxInt, true},
		{0, math.MinInt, 0, true},
		{0, math.MinInt, 1, false},
		{1, 0, 52, true},
		{1, 0, 53, false},
		{1, 52, 53, false},
		{1, 52, 52, true},
		{1, 103, 104, false},
		{1, 104, 832, true},
		{7, 364, 365, false},
		{7, 363, 364, true},
		{7, 415, 416, false},
		{7, 416, 417, true},
		{7, 500, 300, true},
		{15, 0, 780, true},
		{15, 0, 781, false},
		{15, 831, 832, false},
		{15, 831, 831, true},
		{15, 832, 833, true},
		{15, 832, math.MaxInt, true},
		{15, 831, math.MaxInt, false},
		{15, math.MaxInt, math.MinInt, true},
		{0, 1 << 32, 1<<32 + 1, true},
		{0, -1 << 32, -1<<32 + 1, true},
	} {
		ok := trues(16)
		if c.without >= 0 {
			ok[c.without] = false
		}
		if got := Covered(ok, c.from, c.to); got != c.want {
			t.Errorf("Covered(all but %d, %d, %d) = %t", c.without, c.from, c.to, got)
		}
	}
}

// P16.1: what ok lacks isn't true, whatever stands in the room behind its end; none that is touched is covered by none.
func TestCoveredLacks(t *testing.T) {
	for n := range 40 {
		ok := trues(n)
		for end := 1; end <= 832; end++ {
			if got, want := Covered(ok, 0, end), end <= 52*n; got != want {
				t.Fatalf("Covered(%d trues, 0, %d) = %t", n, end, got)
			}
			if got, want := Covered(ok, end-1, end), end <= 52*n; got != want {
				t.Fatalf("Covered(%d trues, %d, %d) = %t", n, end-1, end, got)
			}
		}
	}
	for _, ok := range [][]bool{nil, {}, trues(0)} {
		for _, from := range bounds() {
			if !Covered(ok, from, from) || !Covered(ok, from, 0) || !Covered(ok, 832, from) {
				t.Errorf("no bools: nothing from %d on is not covered", from)
			}
		}
		if Covered(ok, 0, 1) || Covered(ok, 831, 832) || Covered(ok, math.MinInt, math.MaxInt) {
			t.Error("no bools: something is covered")
		}
	}
}

// P16.1: Covered of so many bools, with one false at each place, from and to all bounds.
func TestCoveredOneFalse(t *testing.T) {
	for _, from := range bounds() {
		for _, to := range bounds() {
			is := touched(from, to)
			for _, n := range []int{0, 1, 2, 7, 8, 15, 16, 17, 20} {
				for without := -1; without < n; without++ {
					ok := trues(n)
					if without >= 0 {
						ok[without] = false
					}
					if got, want := Covered(ok, from, to), slowCovered(ok, is); got != want {
						t.Fatalf("Covered(%d, all but %d, %d, %d) = %t", n, without, from, to, got)
					}
				}
			}
		}
	}
}

// P16.1: Covered from each place to each, with any bools.
func TestCoveredAllPlaces(t *testing.T) {
	lists := [][]bool{trues(16), trues(13), slices.Repeat([]bool{false}, 16), slices.Repeat([]bool{true, false}, 8), slices.Repeat([]bool{true, true, true, false}, 5)}
	for from := -2; from <= all+2; from++ {
		for to := -2; to <= all+2; to++ {
			is := touched(from, to)
			for _, ok := range lists {
				if got, want := Covered(ok, from, to), slowCovered(ok, is); got != want {
					t.Fatalf("Covered(%v, %d, %d) = %t", ok, from, to, got)
				}
			}
		}
	}
}

// P16.1: Covered of all lists of 16 bools, from some places to others.
func TestCoveredAllBools(t *testing.T) {
	pairs := [][2]int{{0, 832}, {0, 1}, {831, 832}, {51, 53}, {104, 416}, {300, 301}, {780, 900}, {-10, 60}, {60, 60}, {math.MinInt, math.MaxInt}}
	for _, c := range pairs {
		is := touched(c[0], c[1])
		for bits := range 1 << 16 {
			ok := make([]bool, 16)
			for i := range ok {
				ok[i] = bits>>i&1 == 1
			}
			if got, want := Covered(ok, c[0], c[1]), slowCovered(ok, is); got != want {
				t.Fatalf("Covered(%v, %d, %d) = %t", ok, c[0], c[1], got)
			}
		}
	}
}
