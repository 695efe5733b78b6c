package tear

import (
	"testing"

	"strandline/api"
)

// differIs fails, if Differ answers anything else, or anything else the other way about.
func differIs(t *testing.T, a, b api.Sec, first, behind int) {
	t.Helper()
	for _, got := range [][2]int{pair(Differ(a, b)), pair(Differ(b, a))} {
		if got != [2]int{first, behind} {
			t.Fatalf("Differ(%v, %v) = %v, not %d, %d", a, b, got, first, behind)
		}
	}
}

func pair(a, b int) [2]int {
	return [2]int{a, b}
}

// anySectors are sectors of bytes 0, of bytes 255, of one byte more each, and of such as look like any.
func anySectors() []api.Sec {
	l := []api.Sec{{}, {5}, {sector - 1: 5}}
	var full, counted api.Sec
	for i := range sector {
		full[i], counted[i] = 255, byte(i)
	}
	l = append(l, full, counted)
	for i := range 5 {
		l = append(l, api.Sec(mixed(i, sector)), stamped(epochOf(i), i, mixed(i, room)))
	}
	return l
}

// P20.2: of sectors that are written out.
func TestDifferWrittenOut(t *testing.T) {
	for _, c := range []struct {
		a, b          api.Sec
		first, behind int
	}{
		{api.Sec{}, api.Sec{}, 0, 0},
		{api.Sec{1}, api.Sec{1}, 0, 0},
		{api.Sec{1}, api.Sec{}, 0, 1},
		{api.Sec{1}, api.Sec{2}, 0, 1},
		{api.Sec{1, 2}, api.Sec{1, 3}, 1, 2},
		{api.Sec{1, 2, 3, 4}, api.Sec{1, 3, 3, 5}, 1, 4},
		{api.Sec{1, 2, 3, 4}, api.Sec{2, 3, 4, 5}, 0, 4},
		{api.Sec{63: 1}, api.Sec{}, 63, 64},
		{api.Sec{62: 255}, api.Sec{}, 62, 63},
		{api.Sec{0: 1, 63: 1}, api.Sec{}, 0, 64},
		{api.Sec{0: 1}, api.Sec{63: 1}, 0, 64},
		{api.Sec{11: 9, 12: 8}, api.Sec{11: 9}, 12, 13},
		{api.Sec{11: 9, 12: 8}, api.Sec{12: 8}, 11, 12},
		{api.Sec{20: 128}, api.Sec{}, 20, 21},
		{api.Sec{20: 1, 40: 2, 60: 3}, api.Sec{30: 1, 50: 2}, 20, 61},
	} {
		differIs(t, c.a, c.b, c.first, c.behind)
	}
}

// P20.2: a sector and itself.
func TestDifferItself(t *testing.T) {
	for _, s := range anySectors() {
		differIs(t, s, s, 0, 0)
	}
}

// P20.2: sectors that differ at one place, in each way.
func TestDifferAtOne(t *testing.T) {
	for _, s := range anySectors() {
		for i := range sector {
			for turn := 1; turn < 256; turn++ {
				other := s
				other[i] ^= byte(turn)
				differIs(t, s, other, i, i+1)
			}
		}
	}
}

// P20.2: sectors that differ at two places, and at all from the first to the last, and at some of these.
func TestDifferAtMore(t *testing.T) {
	for k, s := range anySectors() {
		for first := range sector {
			for last := first + 1; last < sector; last++ {
				two, between, some := s, s, s
				for i := first; i <= last; i++ {
					between[i] ^= byte(1 + (i+k)%255)
					if i == first || i == last || (i*i+k)%3 == 1 {
						some[i] ^= 128
					}
				}
				two[first]++
				two[last]--
				differIs(t, s, two, first, last+1)
				differIs(t, s, between, first, last+1)
				differIs(t, s, some, first, last+1)
			}
		}
	}
}

// P20.2: sectors that differ at all places, and any two, place by place.
func TestDifferOfAny(t *testing.T) {
	l := anySectors()
	differIs(t, l[0], l[3], 0, sector)
	for i, a := range l {
		for _, b := range l[i:] {
			first, behind := 0, 0
			for k := sector - 1; k >= 0; k-- {
				if a[k] != b[k] {
					first = k
					behind = max(behind, k+1)
				}
			}
			differIs(t, a, b, first, behind)
		}
	}
}
