package cut

import (
	"math"
	"testing"
)

// P14.1: Room at blocks' and sectors' bounds, beside them, and beyond, written out.
func TestRoomWrittenOut(t *testing.T) {
	for _, c := range []struct{ at, want int }{
		{math.MinInt, 788},
		{-1, 788},
		{0, 788},
		{1, 787},
		{40, 748},
		{41, 747},
		{42, 736},
		{51, 736},
		{52, 736},
		{53, 735},
		{93, 695},
		{94, 684},
		{103, 684},
		{104, 684},
		{145, 643},
		{146, 632},
		{156, 632},
		{195, 593},
		{196, 592},
		{197, 591},
		{198, 591},
		{207, 591},
		{208, 591},
		{209, 590},
		{403, 396},
		{404, 395},
		{405, 394},
		{406, 394},
		{415, 394},
		{416, 394},
		{417, 393},
		{611, 199},
		{612, 198},
		{613, 197},
		{614, 197},
		{623, 197},
		{624, 197},
		{625, 196},
		{769, 52},
		{770, 41},
		{779, 41},
		{780, 41},
		{781, 40},
		{819, 2},
		{820, 1},
		{821, 0},
		{822, -1},
		{823, -1},
		{831, -1},
		{832, -1},
		{833, -1},
		{math.MaxInt, -1},
	} {
		if got := Room(c.at); got != c.want {
			t.Errorf("Room(%d) = %d, not %d", c.at, got, c.want)
		}
	}
}

// P14.1: Room of each place, and of those beyond, by counting the bytes behind heads.
func TestRoomByCounting(t *testing.T) {
	for _, at := range places() {
		if got, want := Room(at), slowRoom(at); got != want {
			t.Errorf("Room(%d) = %d, not %d", at, got, want)
		}
	}
	for _, c := range beyond() {
		if got, want := Room(c.at), slowRoom(c.want); got != want {
			t.Errorf("Room(%d) = %d, not %d", c.at, got, want)
		}
	}
}

// P14.1: Room is the greatest length of which Cut and Fits are true: of each one up to it they are, of none above.
func TestRoomIsGreatest(t *testing.T) {
	for _, at := range places() {
		most := Room(at)
		for n := range 900 {
			_, _, ok := Cut(at, n)
			if ok != (n <= most) || Fits(at, n) != (n <= most) {
				t.Fatalf("Room(%d) = %d, Cut(.., %d) is %t, Fits %t", at, most, n, ok, Fits(at, n))
			}
		}
		for _, n := range append(below(), far()...) {
			if _, _, ok := Cut(at, n); ok || Fits(at, n) {
				t.Fatalf("Room(%d) = %d, Cut(.., %d) is %t, Fits %t", at, most, n, ok, Fits(at, n))
			}
		}
	}
}

// P14.1: Fits at the bounds, written out.
func TestFitsWrittenOut(t *testing.T) {
	for _, c := range []struct {
		at, n int
		want  bool
	}{
		{0, 0, true}, {0, 788, true}, {0, 789, false}, {0, -1, false}, {0, math.MinInt, false}, {0, math.MaxInt, false},
		{-1, 788, true}, {-1, 789, false}, {math.MinInt, 0, true}, {math.MinInt, 788, true}, {math.MinInt, 789, false}, {math.MinInt, -1, false},
		{41, 747, true}, {41, 748, false}, {42, 736, true}, {42, 737, false}, {197, 591, true}, {197, 592, false}, {198, 591, true}, {198, 592, false},
		{624, 197, true}, {624, 198, false}, {820, 1, true}, {820, 2, false}, {821, -1, false}, {821, 0, true}, {821, 1, false},
		{822, -1, false}, {822, 0, false}, {822, 1, false}, {832, -1, false}, {832, 0, false}, {833, 0, false}, {math.MaxInt, 0, false}, {math.MaxInt, -1, false}, {math.MaxInt, math.MinInt, false},
	} {
		if got := Fits(c.at, c.n); got != c.want {
			t.Errorf("Fits(%d, %d) = %t", c.at, c.n, got)
		}
	}
}
