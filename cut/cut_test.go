package cut

import (
	"math"
	"slices"
	"testing"

	"strandline/api"
)

// The chapter's example, and the limits.
func TestExample(t *testing.T) {
	sameCut(t, 0, 200, []api.Piece{{At: 0, Kind: api.FragFirst, From: 0, To: 197}, {At: 208, Kind: api.FragLast, From: 197, To: 200}}, 222, true)
	if api.Room != room || api.BlockRoom != block || api.SegRoom != end || api.Head != head {
		t.Errorf("Room, BlockRoom, SegRoom, Head = %d, %d, %d, %d", api.Room, api.BlockRoom, api.SegRoom, api.Head)
	}
	if api.FragFull != full || api.FragFirst != first || api.FragMiddle != middle || api.FragLast != last {
		t.Errorf("FragFull, FragFirst, FragMiddle, FragLast = %d, %d, %d, %d", api.FragFull, api.FragFirst, api.FragMiddle, api.FragLast)
	}
}

// P14.1: a single piece, from where a sector or a block begins, and from within.
func TestCutSingle(t *testing.T) {
	for _, c := range []struct{ at, n, begin, behind int }{
		{0, 0, 0, 11},
		{0, 1, 0, 12},
		{0, 196, 0, 207},
		{0, 197, 0, 208},
		{1, 0, 1, 12},
		{1, 196, 1, 208},
		{40, 5, 40, 56},
		{41, 0, 41, 52},
		{41, 1, 41, 53},
		{41, 156, 41, 208},
		{42, 0, 52, 63},
		{42, 145, 52, 208},
		{51, 10, 52, 73},
		{52, 10, 52, 73},
		{93, 104, 93, 208},
		{94, 5, 104, 120},
		{100, 20, 104, 135},
		{145, 52, 145, 208},
		{146, 3, 156, 170},
		{195, 1, 195, 207},
		{195, 2, 195, 208},
		{196, 0, 196, 207},
		{196, 1, 196, 208},
		{197, 0, 197, 208},
		{198, 0, 208, 219},
		{198, 197, 208, 416},
		{207, 5, 208, 224},
		{208, 197, 208, 416},
		{404, 1, 404, 416},
		{405, 0, 405, 416},
		{406, 1, 416, 428},
		{612, 1, 612, 624},
		{613, 0, 613, 624},
		{614, 0, 624, 635},
		{624, 196, 624, 831},
		{624, 197, 624, 832},
		{769, 52, 769, 832},
		{770, 41, 780, 832},
		{780, 41, 780, 832},
		{819, 2, 819, 832},
		{820, 0, 820, 831},
		{820, 1, 820, 832},
		{821, 0, 821, 832},
	} {
		sameCut(t, c.at, c.n, []api.Piece{{At: c.begin, Kind: api.FragFull, From: 0, To: c.n}}, c.behind, true)
	}
}

// P14.1: two pieces, of which the first one may have none of the record's bytes.
func TestCutTwo(t *testing.T) {
	for _, c := range []struct{ at, n, begin, to, next, behind int }{
		{0, 198, 0, 197, 208, 220},
		{0, 393, 0, 197, 208, 415},
		{0, 394, 0, 197, 208, 416},
		{1, 197, 1, 196, 208, 220},
		{41, 160, 41, 156, 208, 223},
		{42, 146, 52, 145, 208, 220},
		{93, 105, 93, 104, 208, 220},
		{195, 3, 195, 2, 208, 220},
		{196, 2, 196, 1, 208, 220},
		{196, 198, 196, 1, 208, 416},
		{197, 1, 197, 0, 208, 220},
		{197, 197, 197, 0, 208, 416},
		{198, 198, 208, 197, 416, 428},
		{404, 2, 404, 1, 416, 428},
		{405, 1, 405, 0, 416, 428},
		{406, 198, 416, 197, 624, 636},
		{600, 210, 600, 13, 624, 832},
		{612, 2, 612, 1, 624, 636},
		{612, 198, 612, 1, 624, 832},
		{613, 1, 613, 0, 624, 636},
		{613, 197, 613, 0, 624, 832},
	} {
		want := []api.Piece{{At: c.begin, Kind: api.FragFirst, From: 0, To: c.to}, {At: c.next, Kind: api.FragLast, From: c.to, To: c.n}}
		sameCut(t, c.at, c.n, want, c.behind, true)
	}
}

// P14.1: three pieces and four, which is the most.
func TestCutMore(t *testing.T) {
	for _, c := range []struct {
		at, n  int
		want   [][4]int
		behind int
	}{
		{0, 395, [][4]int{{0, first, 0, 197}, {208, middle, 197, 394}, {416, last, 394, 395}}, 428},
		{0, 512, [][4]int{{0, first, 0, 197}, {208, middle, 197, 394}, {416, last, 394, 512}}, 545},
		{0, 591, [][4]int{{0, first, 0, 197}, {208, middle, 197, 394}, {416, last, 394, 591}}, 624},
		{0, 592, [][4]int{{0, first, 0, 197}, {208, middle, 197, 394}, {416, middle, 394, 591}, {624, last, 591, 592}}, 636},
		{0, 787, [][4]int{{0, first, 0, 197}, {208, middle, 197, 394}, {416, middle, 394, 591}, {624, last, 591, 787}}, 831},
		{0, 788, [][4]int{{0, first, 0, 197}, {208, middle, 197, 394}, {416, middle, 394, 591}, {624, last, 591, 788}}, 832},
		{50, 600, [][4]int{{52, first, 0, 145}, {208, middle, 145, 342}, {416, middle, 342, 539}, {624, last, 539, 600}}, 696},
		{100, 684, [][4]int{{104, first, 0, 93}, {208, middle, 93, 290}, {416, middle, 290, 487}, {624, last, 487, 684}}, 832},
		{196, 199, [][4]int{{196, first, 0, 1}, {208, middle, 1, 198}, {416, last, 198, 199}}, 428},
		{197, 198, [][4]int{{197, first, 0, 0}, {208, middle, 0, 197}, {416, last, 197, 198}}, 428},
		{197, 591, [][4]int{{197, first, 0, 0}, {208, middle, 0, 197}, {416, middle, 197, 394}, {624, last, 394, 591}}, 832},
		{198, 591, [][4]int{{208, first, 0, 197}, {416, middle, 197, 394}, {624, last, 394, 591}}, 832},
		{300, 400, [][4]int{{300, first, 0, 105}, {416, middle, 105, 302}, {624, last, 302, 400}}, 733},
		{405, 394, [][4]int{{405, first, 0, 0}, {416, middle, 0, 197}, {624, last, 197, 394}}, 832},
	} {
		sameCut(t, c.at, c.n, writtenPieces(c.want...), c.behind, true)
	}
}

// P14.1: a place below 0 is 0, one above SegRoom is SegRoom, where nothing fits.
func TestCutBeyond(t *testing.T) {
	for _, c := range beyond() {
		if c.want == end {
			for _, n := range append(bounds(0), far()...) {
				noCut(t, c.at, n)
			}
			continue
		}
		sameCut(t, c.at, 0, writtenPieces([4]int{0, full, 0, 0}), 11, true)
		sameCut(t, c.at, 200, writtenPieces([4]int{0, first, 0, 197}, [4]int{208, last, 197, 200}), 222, true)
		sameCut(t, c.at, 788, writtenPieces([4]int{0, first, 0, 197}, [4]int{208, middle, 197, 394}, [4]int{416, middle, 394, 591}, [4]int{624, last, 591, 788}), 832, true)
		noCut(t, c.at, 789)
	}
}

// P14.1: one byte more than what ends at SegRoom doesn't fit, nor does anything where no head has room.
func TestCutNone(t *testing.T) {
	for _, c := range []struct{ at, n int }{
		{0, 789}, {1, 788}, {41, 748}, {42, 737}, {52, 737}, {93, 696}, {100, 685}, {196, 593}, {197, 592}, {198, 592}, {207, 592}, {208, 592},
		{404, 396}, {405, 395}, {416, 395}, {600, 211}, {612, 199}, {613, 198}, {614, 198}, {624, 198}, {625, 197}, {769, 53}, {770, 42}, {780, 42}, {819, 3}, {820, 2}, {821, 1},
		{822, 0}, {822, 1}, {823, 0}, {831, 0}, {831, 1}, {832, 0}, {832, 1}, {832, 197}, {833, 0},
		{0, math.MaxInt}, {821, math.MaxInt}, {832, math.MaxInt}, {math.MaxInt, math.MaxInt}, {math.MinInt, math.MaxInt}, {math.MaxInt, math.MinInt}, {math.MinInt, math.MinInt},
	} {
		noCut(t, c.at, c.n)
	}
}

// P14.1: no record has fewer than 0 bytes, or far more than a body has room for.
func TestCutOfWrongLength(t *testing.T) {
	for _, at := range places() {
		for _, n := range append(below(), far()...) {
			sameCut(t, at, n, nil, 0, false)
			if Fits(at, n) {
				t.Errorf("Fits(%d, %d)", at, n)
			}
		}
	}
}

// P14.1: Cut, and Fits beside it, by the chapter's words, from each place, of each length up to the most that fits, and beyond.
func TestCutByWords(t *testing.T) {
	for _, at := range places() {
		for n := -2; n < 800; n++ {
			want, behind, ok := slowCut(at, n)
			got, gotBehind, gotOK := Cut(at, n)
			if !slices.Equal(got, want) || gotBehind != behind || gotOK != ok || Fits(at, n) != ok {
				t.Fatalf("Cut(%d, %d) = %v, %d, %t, not %v, %d, %t; Fits: %t", at, n, got, gotBehind, gotOK, want, behind, ok, Fits(at, n))
			}
		}
	}
}

// P14.1: what is cut is the same once more, and stays what it was, whatever is cut behind it, and whatever is done with another answer.
func TestCutAnew(t *testing.T) {
	for at := 0; at < end; at += 7 {
		for _, n := range bounds(at) {
			want, behind, ok := slowCut(at, n)
			kept, _, _ := Cut(at, n)
			Cut(1, 787)
			if !slices.Equal(kept, want) {
				t.Fatalf("Cut(%d, %d): what was answered is %v now, not %v", at, n, kept, want)
			}
			spoilt, _, _ := Cut(at, n)
			for i := range spoilt[:cap(spoilt)] {
				spoilt[:cap(spoilt)][i] = api.Piece{At: -1, Kind: -1, From: -1, To: -1}
			}
			if !slices.Equal(kept, want) {
				t.Fatalf("Cut(%d, %d): two answers share pieces", at, n)
			}
			sameCut(t, at, n, want, behind, ok)
		}
	}
}
