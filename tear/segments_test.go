package tear

import (
	"slices"
	"testing"

	"strandline/api"
)

// look is what the bytes of a segment's records look like.
type look int

const (
	anything look = iota
	zero
	full
	fragments // where a fragment may begin there is a right one, that tells a record
	firsts    // and where one that begins a record
	stamps    // sectors that are stamped right
	looks
)

// fake is a body of bytes that look so.
func fake(epoch uint64, k look, which int) []byte {
	var b []byte
	for len(b) < all {
		switch k {
		case anything:
			b = append(b, mixed(which, all)...)
		case zero:
			b = append(b, 0)
		case full:
			b = append(b, 255)
		case stamps:
			s := stamped(epoch, len(b)/sector, slices.Repeat(fragment(1, epoch, nil), 4))
			b = append(b, s[:]...)
		default:
			kind := 1 + int(k-fragments)
			b = append(b, slices.Repeat(fragment(kind, epoch, nil), 4)...)
			b = append(b, make([]byte, room-4*head)...)
		}
	}
	return b[:all]
}

// looking are records of these lengths, whose bytes are those of a fake body at the places at which they are laid, from at on.
func looking(epoch uint64, k look, at int, lengths ...int) [][]byte {
	var l [][]byte
	for i, n := range lengths {
		b := fake(epoch, k, i)
		parts, behind, ok := pieces(at, n)
		if !ok {
			return append(l, make([]byte, n))
		}
		data := []byte{}
		for _, p := range parts {
			data = append(data, b[p.at+head:p.at+head+p.to-p.from]...)
		}
		l, at = append(l, data), behind
	}
	return l
}

// segmentOf is a segment with records of these lengths, whose bytes look so.
func segmentOf(t *testing.T, epoch uint64, k look, lengths ...int) segment {
	t.Helper()
	return lay(t, epoch, looking(epoch, k, 0, lengths...))
}

// lists are lengths of records that a segment has room for, at the bounds of fragments, sectors, blocks and segments: some are full to the last byte.
func lists() [][]int {
	l := [][]int{
		{}, {0}, {1}, {10, 10}, {41}, {41, 0}, {41, 41, 41}, {30}, {30, 0}, {31}, {31, 0}, {92, 1}, {93, 7}, {94, 7},
		{185, 9}, {186, 0}, {186, 1}, {186, 300, 4}, {187, 2}, {196, 20}, {most}, {most, 0}, {198}, {198, 5}, {393, 3}, {394}, {394, 394}, {395, 20},
		{0, 0, 0, 0, 41, 0}, {511}, {longest}, {longest, 265}, {longest, 200, 20}, {300, 20, 300}, {777}, {777, 0}, {whole}, {513, 10}, {20, 513, 20},
		many(64, 0), many(63, 0), many(16, 41), many(15, 41), many(4, most), many(8, 93), {most, most, most, most - 1},
	}
	for _, n := range []int{1, 5, 10, 17, 29, 60, 100, 180, 250, 350} {
		l = append(l, filling(n))
	}
	return l
}

// anyLists are lists of lengths that look like any, most of them short, as far as a segment has room for them.
func anyLists(count int) [][]int {
	var l [][]int
	numbers := scatter(64 * count)
	for i := range count {
		var lengths []int
		at := 0
		for _, n := range numbers[64*i : 64*i+1+i%60] {
			_, behind, ok := pieces(at, int(n)>>(i%8)*(1+i%3))
			if !ok {
				break
			}
			lengths, at = append(lengths, int(n)>>(i%8)*(1+i%3)), behind
		}
		l = append(l, lengths)
	}
	return l
}

// segments are those of all lists, and of some lists that look like any, each with another epoch, and bytes that look otherwise.
func segments(t *testing.T) []segment {
	t.Helper()
	var l []segment
	for i, lengths := range append(lists(), anyLists(40)...) {
		l = append(l, segmentOf(t, epochOf(i), look(i)%looks, lengths...))
	}
	return l
}

// everyLength are segments with one record of each length, and as many of each length as there is room for.
func everyLength(t *testing.T) []segment {
	t.Helper()
	var l []segment
	for n := range whole + 1 {
		l = append(l, segmentOf(t, epochOf(n), look(n)%looks, n), segmentOf(t, epochOf(n+1), look(n+1)%looks, filling(n)...))
	}
	return l
}

// with is a copy of l with another sector at i.
func with(l []api.Sec, i int, s api.Sec) []api.Sec {
	l = slices.Clone(l)
	l[i] = s
	return l
}
