package span

import (
	"math"
	"testing"

	"strandline/api"
)

// A body's numbers, as they are told in no code but here.
const (
	room    = 52
	block   = 208
	sectors = 16
	end     = 832
	head    = 11
)

// beyond are numbers below 0 and above SegRoom, with the places that they are taken as.
func beyond() []struct{ at, want int } {
	return []struct{ at, want int }{
		{math.MinInt, 0},
		{math.MinInt + 1, 0},
		{math.MinInt + room, 0},
		{math.MinInt32 - 1, 0},
		{math.MinInt32, 0},
		{-end - 1, 0},
		{-end, 0},
		{-block, 0},
		{-room, 0},
		{-head, 0},
		{-2, 0},
		{-1, 0},
		{end + 1, end},
		{end + 2, end},
		{end + head, end},
		{end + room, end},
		{end + block, end},
		{2 * end, end},
		{math.MaxInt32, end},
		{math.MaxInt32 + 1, end},
		{math.MaxUint32 + 1, end},
		{math.MaxUint32 + 1 + room, end},
		{math.MaxInt - room, end},
		{math.MaxInt - 1, end},
		{math.MaxInt, end},
	}
}

// clamped is n as the nearer one of 0 and most, by counting out the cases.
func clamped(n, most int) int {
	if n < 0 {
		return 0
	}
	if n > most {
		return most
	}
	return n
}

// spots tells where each byte of a body's room lies, told by walking through the sectors one by one; the last spot is SegRoom's.
func spots() []Spot {
	var l []Spot
	for sector := range sectors {
		for off := range room {
			l = append(l, Spot{sector, off})
		}
	}
	return append(l, Spot{sectors, 0})
}

// behind counts the bytes of room from the place at on in its sector, and in its block, one by one.
func behind(at int) (int, int) {
	l := spots()
	inSector, inBlock := 0, 0
	for _, s := range l[at:end] {
		if s.Sector == l[at].Sector {
			inSector++
		}
		if s.Sector/4 == l[at].Sector/4 {
			inBlock++
		}
	}
	return inSector, inBlock
}

// next tells the first place of the sector behind that of the place at, going on byte by byte.
func next(at int) int {
	l := spots()
	for n, s := range l {
		if n > at && s.Sector != l[at].Sector {
			return n
		}
	}
	return end
}

// slowBegin is Begin of a place, by the chapter's words.
func slowBegin(at int) int {
	if inSector, _ := behind(at); inSector >= head {
		return at
	}
	return next(at)
}

// The chapter's example, and the limits.
func TestExample(t *testing.T) {
	if got := Where(52); got != (Spot{Sector: 1, Off: 0}) {
		t.Errorf("Where(52) = %v", got)
	}
	if got := Begin(200); got != 208 {
		t.Errorf("Begin(200) = %d", got)
	}
	if api.Room != room || api.BlockRoom != block || api.Data != sectors || api.SegRoom != end || api.Head != head {
		t.Errorf("Room, BlockRoom, Data, SegRoom, Head = %d, %d, %d, %d, %d", api.Room, api.BlockRoom, api.Data, api.SegRoom, api.Head)
	}
}

// P7.1: Where of each place from 0 to SegRoom.
func TestWhere(t *testing.T) {
	l := spots()
	if len(l) != end+1 {
		t.Fatalf("%d spots", len(l))
	}
	for at, want := range l {
		if got := Where(at); got != want {
			t.Errorf("Where(%d) = %v, want %v", at, got, want)
		}
	}
}

// P7.1: Where at the bounds, written out.
func TestWhereWrittenOut(t *testing.T) {
	for _, c := range []struct{ at, sector, off int }{
		{0, 0, 0},
		{1, 0, 1},
		{51, 0, 51},
		{52, 1, 0},
		{53, 1, 1},
		{103, 1, 51},
		{104, 2, 0},
		{207, 3, 51},
		{208, 4, 0},
		{415, 7, 51},
		{416, 8, 0},
		{779, 14, 51},
		{780, 15, 0},
		{781, 15, 1},
		{831, 15, 51},
		{832, 16, 0},
	} {
		if got := Where(c.at); got != (Spot{c.sector, c.off}) {
			t.Errorf("Where(%d) = %v, want %d, %d", c.at, got, c.sector, c.off)
		}
	}
}

// P7.1: Where of numbers below 0 and above SegRoom is that of the nearer one.
func TestWhereBeyond(t *testing.T) {
	for _, c := range beyond() {
		want := Spot{0, 0}
		if c.want == end {
			want = Spot{sectors, 0}
		}
		if got := Where(c.at); got != want {
			t.Errorf("Where(%d) = %v, want %v", c.at, got, want)
		}
	}
}

// P7.1: At of each Spot that Where tells.
func TestAt(t *testing.T) {
	for want, s := range spots() {
		if got := At(s); got != want {
			t.Errorf("At(%v) = %d, want %d", s, got, want)
		}
	}
}

// P7.1: At with Sector, Off, or both out of range, and at the bounds, written out.
func TestAtWrittenOut(t *testing.T) {
	for _, c := range []struct{ sector, off, want int }{
		{0, 0, 0},
		{0, room - 1, 51},
		{0, room, 52},
		{0, room + 1, 52},
		{0, math.MaxInt, 52},
		{0, -1, 0},
		{0, math.MinInt, 0},
		{3, -1, 156},
		{3, math.MinInt, 156},
		{3, room, 208},
		{3, room + 1, 208},
		{3, math.MaxInt, 208},
		{-1, 0, 0},
		{-1, 7, 7},
		{-1, room, 52},
		{-1, room + 1, 52},
		{-1, -1, 0},
		{-100, 51, 51},
		{math.MinInt, 7, 7},
		{math.MinInt, math.MinInt, 0},
		{math.MinInt, math.MaxInt, 52},
		{math.MaxInt, math.MinInt, 832},
		{math.MaxInt, math.MaxInt, 832},
		{math.MaxInt, 0, 832},
		{sectors - 1, 0, 780},
		{sectors - 1, room - 1, 831},
		{sectors - 1, room, 832},
		{sectors - 1, room + 1, 832},
		{sectors - 1, math.MaxInt, 832},
		{sectors - 1, -1, 780},
		{sectors, 0, 832},
		{sectors, 1, 832},
		{sectors, room, 832},
		{sectors, -1, 832},
		{sectors, math.MinInt, 832},
		{sectors, math.MaxInt, 832},
		{sectors + 1, 0, 832},
		{sectors + 1, -room, 832},
		{sectors + 100, 51, 832},
	} {
		if got := At(Spot{c.sector, c.off}); got != c.want {
			t.Errorf("At(%d, %d) = %d, want %d", c.sector, c.off, got, c.want)
		}
	}
}

// P7.1: At of Spots around the bounds and far from them, by steps through the rooms ahead.
func TestAtOfAny(t *testing.T) {
	numbers := []int{math.MinInt, math.MinInt + 1, math.MinInt32, math.MaxInt32, math.MaxUint32 + 1, math.MaxInt/room + 1, math.MinInt/room - 1, math.MaxInt - 1, math.MaxInt}
	for n := -70; n <= 130; n++ {
		numbers = append(numbers, n)
	}
	for _, sector := range numbers {
		for _, off := range numbers {
			want := 0
			for range clamped(sector, sectors) {
				want += room
			}
			want = clamped(want+clamped(off, room), end)
			if got := At(Spot{sector, off}); got != want {
				t.Fatalf("At(%d, %d) = %d, want %d", sector, off, got, want)
			}
		}
	}
}

// P7.2: Left of each place from 0 to SegRoom, by counting.
func TestLeft(t *testing.T) {
	for at := range end {
		_, want := behind(at)
		if got := Left(at); got != want {
			t.Errorf("Left(%d) = %d, want %d", at, got, want)
		}
	}
	if got := Left(end); got != 0 {
		t.Errorf("Left(%d) = %d", end, got)
	}
}

// P7.2: Left at each block's first place, its last one, and beside them; at SegRoom it is 0.
func TestLeftWrittenOut(t *testing.T) {
	for _, c := range []struct{ at, want int }{
		{0, 208},
		{1, 207},
		{51, 157},
		{52, 156},
		{206, 2},
		{207, 1},
		{208, 208},
		{209, 207},
		{415, 1},
		{416, 208},
		{623, 1},
		{624, 208},
		{780, 52},
		{830, 2},
		{831, 1},
		{832, 0},
	} {
		if got := Left(c.at); got != c.want {
			t.Errorf("Left(%d) = %d, want %d", c.at, got, c.want)
		}
	}
}

// P7.2: Left of numbers below 0 and above SegRoom is that of the nearer one.
func TestLeftBeyond(t *testing.T) {
	for _, c := range beyond() {
		want := block
		if c.want == end {
			want = 0
		}
		if got := Left(c.at); got != want {
			t.Errorf("Left(%d) = %d, want %d", c.at, got, want)
		}
	}
}

// P7.2: Begin of each place from 0 to SegRoom, by counting.
func TestBegin(t *testing.T) {
	for at := range end + 1 {
		if got, want := Begin(at), slowBegin(at); got != want {
			t.Errorf("Begin(%d) = %d, want %d", at, got, want)
		}
	}
}

// P7.2: Begin where just Head bytes are left in each sector, one more and one less: the next sector's place, and SegRoom in the last one.
func TestBeginAtHead(t *testing.T) {
	for sector := range sectors {
		behindIt := 52 * (sector + 1)
		for _, c := range []struct{ at, want int }{
			{behindIt - 52, behindIt - 52},
			{behindIt - 12, behindIt - 12},
			{behindIt - 11, behindIt - 11},
			{behindIt - 10, behindIt},
			{behindIt - 1, behindIt},
			{behindIt, behindIt},
		} {
			if got := Begin(c.at); got != c.want {
				t.Errorf("Begin(%d) = %d, want %d", c.at, got, c.want)
			}
		}
	}
}

// P7.2: Begin at the bounds, written out.
func TestBeginWrittenOut(t *testing.T) {
	for _, c := range []struct{ at, want int }{
		{0, 0},
		{40, 40},
		{41, 41},
		{42, 52},
		{51, 52},
		{52, 52},
		{196, 196},
		{197, 197},
		{198, 208},
		{207, 208},
		{820, 820},
		{821, 821},
		{822, 832},
		{831, 832},
		{832, 832},
	} {
		if got := Begin(c.at); got != c.want {
			t.Errorf("Begin(%d) = %d, want %d", c.at, got, c.want)
		}
	}
}

// P7.2: Begin of numbers below 0 and above SegRoom is the nearer one.
func TestBeginBeyond(t *testing.T) {
	for _, c := range beyond() {
		if got := Begin(c.at); got != c.want {
			t.Errorf("Begin(%d) = %d, want %d", c.at, got, c.want)
		}
	}
}

// P7.2: Touch of every from and to, below, equal and above, some beside the range too, by going on byte by byte.
func TestTouch(t *testing.T) {
	l := spots()
	for from := -3; from <= end+3; from++ {
		first, last := 0, 0
		for to := -3; to <= end+3; to++ {
			// to has just gone over the byte ahead of it: is that one of the room, and from from on?
			if at := to - 1; at >= 0 && at < end && at >= from {
				if last == 0 {
					first = l[at].Sector
				}
				last = l[at].Sector + 1
			}
			if a, b := Touch(from, to); a != first || b != last {
				t.Fatalf("Touch(%d, %d) = %d, %d, want %d, %d", from, to, a, b, first, last)
			}
		}
	}
}

// P7.2: Touch at sectors' bounds and beside them, written out.
func TestTouchWrittenOut(t *testing.T) {
	for _, c := range []struct{ from, to, first, last int }{
		{0, 0, 0, 0},
		{0, 1, 0, 1},
		{0, 51, 0, 1},
		{0, 52, 0, 1},
		{0, 53, 0, 2},
		{51, 52, 0, 1},
		{51, 53, 0, 2},
		{52, 52, 0, 0},
		{52, 53, 1, 2},
		{52, 104, 1, 2},
		{52, 105, 1, 3},
		{53, 52, 0, 0},
		{103, 105, 1, 3},
		{200, 420, 3, 9},
		{780, 832, 15, 16},
		{779, 780, 14, 15},
		{779, 832, 14, 16},
		{831, 831, 0, 0},
		{831, 832, 15, 16},
		{832, 832, 0, 0},
		{832, 831, 0, 0},
		{832, 0, 0, 0},
		{0, 832, 0, 16},
	} {
		if a, b := Touch(c.from, c.to); a != c.first || b != c.last {
			t.Errorf("Touch(%d, %d) = %d, %d, want %d, %d", c.from, c.to, a, b, c.first, c.last)
		}
	}
}

// P7.2: Touch with numbers below 0 and above SegRoom, on either side and on both, is that of the nearer ones.
func TestTouchBeyond(t *testing.T) {
	far, l := beyond(), spots()
	for _, a := range far {
		for at, s := range l {
			wantFirst, wantLast := 0, 0
			if a.want < at {
				wantLast = l[at-1].Sector + 1
			}
			if first, last := Touch(a.at, at); first != wantFirst || last != wantLast {
				t.Fatalf("Touch(%d, %d) = %d, %d, want %d, %d", a.at, at, first, last, wantFirst, wantLast)
			}
			wantFirst, wantLast = 0, 0
			if at < a.want {
				wantFirst, wantLast = s.Sector, sectors
			}
			if first, last := Touch(at, a.at); first != wantFirst || last != wantLast {
				t.Fatalf("Touch(%d, %d) = %d, %d, want %d, %d", at, a.at, first, last, wantFirst, wantLast)
			}
		}
		for _, b := range far {
			want := 0
			if a.want == 0 && b.want == end {
				want = sectors
			}
			if first, last := Touch(a.at, b.at); first != 0 || last != want {
				t.Errorf("Touch(%d, %d) = %d, %d, want 0, %d", a.at, b.at, first, last, want)
			}
		}
	}
}

// P7.3: At of Where is the place, as the nearer one of 0 and SegRoom.
func TestAtOfWhere(t *testing.T) {
	for at := -2 * end; at <= 3*end; at++ {
		if got, want := At(Where(at)), clamped(at, end); got != want {
			t.Fatalf("At(Where(%d)) = %d, want %d", at, got, want)
		}
	}
	for _, c := range beyond() {
		if got := At(Where(c.at)); got != c.want {
			t.Errorf("At(Where(%d)) = %d, want %d", c.at, got, c.want)
		}
	}
}

// P7.3: Where of At is the Spot, if it is one that Where tells.
func TestWhereOfAt(t *testing.T) {
	for _, s := range spots() {
		if got := Where(At(s)); got != s {
			t.Errorf("Where(At(%v)) = %v", s, got)
		}
	}
}

// P7.3: what begins at Begin has room for a head in its sector, or it is the end; and there is no such place between.
func TestBeginHasRoom(t *testing.T) {
	l := spots()
	for at := -200; at <= end+200; at++ {
		got := Begin(at)
		if got < clamped(at, end) || got > end || Begin(got) != got {
			t.Fatalf("Begin(%d) = %d", at, got)
		}
		if got < end && (Left(got) < head || l[got+head-1].Sector != l[got].Sector) {
			t.Fatalf("Begin(%d) = %d has no room for a head", at, got)
		}
		for between := clamped(at, end); between < got; between++ {
			if inSector, _ := behind(between); inSector >= head {
				t.Fatalf("Begin(%d) = %d, but %d has room", at, got, between)
			}
		}
	}
}
