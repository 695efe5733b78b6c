package plan

import (
	"math"
	"slices"
	"testing"

	"strandline/api"
)

// The chapter's example, and the limits.
func TestExample(t *testing.T) {
	body := scatter(all)
	sameWrite(t, 3, body, 50, 60, 0, []api.Sec{sealed(3, 0, body[:52]), sealed(3, 1, body[52:104])})
	if api.Sector != sector || api.Stamp != ahead || api.Room != room || api.Data != sectors || api.SegRoom != all {
		t.Errorf("Sector, Stamp, Room, Data, SegRoom = %d, %d, %d, %d, %d", api.Sector, api.Stamp, api.Room, api.Data, api.SegRoom)
	}
}

// P16.2: the first sector and how many there are, written out.
func TestWriteWrittenOut(t *testing.T) {
	body := scatter(all)
	for _, c := range []struct{ from, to, first, count int }{
		{0, 0, 0, 0},
		{0, 1, 0, 1},
		{0, 51, 0, 1},
		{0, 52, 0, 1},
		{0, 53, 0, 2},
		{1, 52, 0, 1},
		{50, 60, 0, 2},
		{51, 51, 0, 0},
		{51, 52, 0, 1},
		{51, 53, 0, 2},
		{52, 52, 0, 0},
		{52, 53, 1, 1},
		{52, 104, 1, 1},
		{52, 105, 1, 2},
		{60, 50, 0, 0},
		{103, 105, 1, 2},
		{104, 416, 2, 6},
		{400, 401, 7, 1},
		{415, 417, 7, 2},
		{500, 400, 0, 0},
		{779, 780, 14, 1},
		{779, 781, 14, 2},
		{780, 781, 15, 1},
		{780, 832, 15, 1},
		{831, 831, 0, 0},
		{831, 832, 15, 1},
		{831, 833, 15, 1},
		{832, 832, 0, 0},
		{832, 833, 0, 0},
		{833, 900, 0, 0},
		{832, math.MaxInt, 0, 0},
		{831, math.MaxInt, 15, 1},
		{0, 832, 0, 16},
		{0, math.MaxInt, 0, 16},
		{-1, 832, 0, 16},
		{-1, 0, 0, 0},
		{-1, 1, 0, 1},
		{-60, -50, 0, 0},
		{math.MinInt, 0, 0, 0},
		{math.MinInt, 1, 0, 1},
		{math.MinInt, math.MaxInt, 0, 16},
		{math.MaxInt, math.MinInt, 0, 0},
		{math.MinInt, math.MinInt, 0, 0},
		{math.MaxInt, math.MaxInt, 0, 0},
		{1<<32 + 50, 1<<32 + 60, 0, 0},
		{-1<<32 + 50, -1<<32 + 60, 0, 0},
	} {
		var want []api.Sec
		for i := c.first; i < c.first+c.count; i++ {
			want = append(want, sealed(7, i, body[52*i:52*i+52]))
		}
		sameWrite(t, 7, body, c.from, c.to, c.first, want)
	}
}

// P16.2: a sector's bytes, written out: eight of the epoch, four of the place, and the room, of which the body lacks some.
func TestWriteBytes(t *testing.T) {
	body := []byte("0123456789012345678901234567890123456789012345678901ab")
	first, l := Write(0x0807060504030201, body, 53, 54)
	want := api.Sec{0: 1, 1: 2, 2: 3, 3: 4, 4: 5, 5: 6, 6: 7, 7: 8, 8: 1, 12: 'a', 13: 'b'}
	if first != 1 || !slices.Equal(l, []api.Sec{want}) {
		t.Errorf("Write = %d, %v", first, l)
	}
	first, l = Write(1<<64-1, body, 800, 832)
	want = api.Sec{255, 255, 255, 255, 255, 255, 255, 255, 15}
	if first != 15 || !slices.Equal(l, []api.Sec{want}) {
		t.Errorf("Write = %d, %v", first, l)
	}
	if l := Whole(0x0807060504030201, body, 53); l[1] != (api.Sec{1, 2, 3, 4, 5, 6, 7, 8, 1, 0, 0, 0, 'a', 'b'}) || l[2] != (api.Sec{}) {
		t.Errorf("Whole = %v, %v", l[1], l[2])
	}
}

// P16.2: Write from each place, and some beyond, to each, and some beyond.
func TestWriteAllPlaces(t *testing.T) {
	body := scatter(all)
	want := slowSectors(5, body)
	var places []int
	for at := -2; at <= all+2; at++ {
		places = append(places, at)
	}
	for _, from := range places {
		for _, to := range places {
			first, written := slowWrite(want, from, to)
			sameWrite(t, 5, body, from, to, first, written)
		}
	}
}

// P16.2: Write by many epochs, of bodies that lack bytes or have more, from and to all bounds.
func TestWriteBodies(t *testing.T) {
	bounds := bounds()
	for i, body := range bodies() {
		epoch := epochs()[i%len(epochs())]
		want := slowSectors(epoch, body)
		for _, from := range bounds {
			for _, to := range bounds {
				first, written := slowWrite(want, from, to)
				sameWrite(t, epoch, body, from, to, first, written)
			}
		}
	}
	for _, epoch := range epochs() {
		for _, body := range bodies() {
			want := slowSectors(epoch, body)
			for _, c := range [][2]int{{0, all}, {math.MinInt, math.MaxInt}, {50, 60}, {780, 781}, {0, 52}, {300, 300}, {all, all}} {
				first, written := slowWrite(want, c[0], c[1])
				sameWrite(t, epoch, body, c[0], c[1], first, written)
			}
		}
	}
}

// P16.2: Whole by all epochs, of bodies that lack bytes or have more, to all bounds.
func TestWhole(t *testing.T) {
	for _, epoch := range epochs() {
		for _, body := range bodies() {
			want := slowSectors(epoch, body)
			for _, end := range bounds() {
				sameWhole(t, epoch, body, end, slowWhole(want, end))
			}
		}
	}
}

// P16.2: Whole to each place: how many sectors are not empty, written out about the bounds, and which they are.
func TestWholeAllPlaces(t *testing.T) {
	body := scatter(all)
	want := slowSectors(9, body)
	for end := -2; end <= all+2; end++ {
		sameWhole(t, 9, body, end, slowWhole(want, end))
	}
	for _, c := range []struct{ end, count int }{
		{math.MinInt, 0}, {-1, 0}, {0, 0}, {1, 1}, {51, 1}, {52, 1}, {53, 2}, {104, 2}, {105, 3}, {780, 15}, {781, 16}, {831, 16}, {832, 16}, {833, 16}, {1<<32 + 1, 16}, {math.MaxInt, 16},
	} {
		l := Whole(9, body, c.end)
		if len(l) != 16 {
			t.Fatalf("Whole to %d: %d sectors", c.end, len(l))
		}
		for i, s := range l {
			if empty := s == (api.Sec{}); empty != (i >= c.count) {
				t.Errorf("Whole to %d: sector %d is empty: %t", c.end, i, empty)
			}
		}
	}
}

// P16.2: Whole and Write of a body without bytes have stamps, and rooms of bytes 0.
func TestNoBody(t *testing.T) {
	for _, body := range [][]byte{nil, {}, roomy(nil)} {
		want := []api.Sec{{0: 6}, {0: 6, 8: 1}, {0: 6, 8: 2}}
		sameWrite(t, 6, body, 0, 110, 0, want)
		sameWhole(t, 6, body, 110, append(want, make([]api.Sec, 13)...))
	}
}
