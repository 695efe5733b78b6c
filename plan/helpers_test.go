package plan

import (
	"math"
	"slices"
	"testing"

	"strandline/api"
)

// A sector's and a body's numbers, as they are told in no code but here.
const (
	sector  = 64
	ahead   = 12
	room    = 52
	sectors = 16
	all     = 832
)

// epochs are the bounds of their type's bits, and some between; some are the same in fewer bits.
func epochs() []uint64 {
	return []uint64{0, 1, 1<<64 - 1, 2, 3, 255, 256, 1<<31 - 1, 1 << 31, 1<<32 - 1, 1 << 32, 1<<32 + 1, 1 << 56, 1<<63 - 1, 1 << 63, 1<<63 + 3, 0x0102030405060708}
}

// beyond are numbers below 0 and above SegRoom, some the same as a place in fewer bits.
func beyond() []int {
	return []int{
		math.MinInt, math.MinInt + 1, math.MinInt + room, -1<<32 - 1, -1 << 32, -1<<32 + 60, math.MinInt32 - 1, math.MinInt32, -65536 + 60, -all - 1, -all, -all + 1, -256 + 60, -room - 1, -room, -12, -2, -1,
		all + 1, all + 2, all + room, 2*all - 1, 2 * all, 65536, 65536 + 60, math.MaxInt32, math.MaxInt32 + 1, 1 << 32, 1<<32 + 60, 1<<32 + all, math.MaxInt - all, math.MaxInt - room, math.MaxInt - 1, math.MaxInt,
	}
}

// bounds are the places about each sector's first one and last one, SegRoom, and those beyond.
func bounds() []int {
	l := beyond()
	for i := range sectors {
		l = append(l, room*i, room*i+1, room*i+25, room*i+room-2, room*i+room-1)
	}
	return append(l, all)
}

// lengths are those of bodies that lack bytes, have just enough, and have more.
func lengths() []int {
	return []int{0, 1, 2, 51, 52, 53, 103, 104, 105, 400, 415, 416, 417, 779, 780, 781, 831, 832, 833, 883, 884, 885, 1664, 5000}
}

// bodies are nil, and one of each of the lengths, with room behind its end.
func bodies() [][]byte {
	l := [][]byte{nil, {}}
	for _, n := range lengths() {
		l = append(l, roomy(scatter(n)))
	}
	return l
}

// scatter tells bytes that look like any, none of them 0, the same ones in each run.
func scatter(count int) []byte {
	var l []byte
	n := uint64(88172645463325252)
	for range count {
		n ^= n << 13
		n ^= n >> 7
		n ^= n << 17
		l = append(l, byte(max(n>>32&255, 1)))
	}
	return l
}

// roomy is b, with bytes behind its end that are not its own.
func roomy(b []byte) []byte {
	return append(slices.Clone(b), scatter(2*all)...)[:len(b)]
}

// whole is l, and the room behind its end, as they are now.
func whole[T any](l []T) []T {
	return slices.Clone(l[:cap(l)])
}

// sealed is the sector that is stamped with epoch and index, byte by byte; room's bytes, as far as it has them, stand in its room.
func sealed(epoch uint64, index int, room []byte) api.Sec {
	var s api.Sec
	for i := range sector {
		switch {
		case i < 8:
			s[i] = byte(epoch >> (8 * i))
		case i < ahead:
			s[i] = byte(index >> (8 * (i - 8)))
		case i-ahead < len(room):
			s[i] = room[i-ahead]
		}
	}
	return s
}

// stamped tells whether s is stamped with epoch and index, byte by byte.
func stamped(s api.Sec, epoch uint64, index int) bool {
	for i := range ahead {
		if i < 8 && s[i] != byte(epoch>>(8*i)) {
			return false
		}
		if i >= 8 && s[i] != byte(index>>(8*(i-8))) {
			return false
		}
	}
	return true
}

// slowFlat is what the chapter says of Flat, byte by byte.
func slowFlat(epoch uint64, l []api.Sec) ([]byte, []bool) {
	var body []byte
	var ok []bool
	for i := range sectors {
		ok = append(ok, i < len(l) && stamped(l[i], epoch, i))
		for at := range room {
			if ok[i] {
				body = append(body, l[i][ahead+at])
			} else {
				body = append(body, 0)
			}
		}
	}
	return body, ok
}

// slowSectors are the sectors of the body, byte by byte.
func slowSectors(epoch uint64, body []byte) []api.Sec {
	var l []api.Sec
	for i := range sectors {
		var bytes []byte
		for at := room * i; at < room*(i+1) && at < len(body); at++ {
			bytes = append(bytes, body[at])
		}
		l = append(l, sealed(epoch, i, bytes))
	}
	return l
}

// touched tells which sectors have one of the places from from on, below to, going over them one by one.
func touched(from, to int) [sectors]bool {
	var is [sectors]bool
	for at := range all {
		if from <= at && at < to {
			is[at/room] = true
		}
	}
	return is
}

// slowWrite is what the chapter says of Write, by the body's sectors.
func slowWrite(l []api.Sec, from, to int) (int, []api.Sec) {
	first := 0
	var written []api.Sec
	for i, is := range touched(from, to) {
		if is && len(written) == 0 {
			first = i
		}
		if is {
			written = append(written, l[i])
		}
	}
	return first, written
}

// slowWhole is what the chapter says of Whole, by the body's sectors.
func slowWhole(l []api.Sec, end int) []api.Sec {
	var whole []api.Sec
	for i, is := range touched(0, end) {
		if is {
			whole = append(whole, l[i])
		} else {
			whole = append(whole, api.Sec{})
		}
	}
	return whole
}

// slowCovered is what the chapter says of Covered, sector by sector.
func slowCovered(ok []bool, is [sectors]bool) bool {
	for i, touched := range is {
		if touched && (i >= len(ok) || !ok[i]) {
			return false
		}
	}
	return true
}

// sameFlat fails, if Flat answers anything else.
func sameFlat(t *testing.T, epoch uint64, l []api.Sec, body []byte, ok []bool) {
	t.Helper()
	gotBody, gotOK := Flat(epoch, l)
	if !slices.Equal(gotBody, body) {
		t.Fatalf("Flat(%d) of %d sectors: body %v, not %v", epoch, len(l), gotBody, body)
	}
	if !slices.Equal(gotOK, ok) {
		t.Fatalf("Flat(%d) of %d sectors: bools %v, not %v", epoch, len(l), gotOK, ok)
	}
}

// sameWrite fails, if Write answers anything else.
func sameWrite(t *testing.T, epoch uint64, body []byte, from, to, first int, want []api.Sec) {
	t.Helper()
	gotFirst, got := Write(epoch, body, from, to)
	if gotFirst != first {
		t.Fatalf("Write(%d, %d bytes, %d, %d): first %d, not %d", epoch, len(body), from, to, gotFirst, first)
	}
	if !slices.Equal(got, want) {
		t.Fatalf("Write(%d, %d bytes, %d, %d) = %v, not %v", epoch, len(body), from, to, got, want)
	}
}

// sameWhole fails, if Whole answers anything else.
func sameWhole(t *testing.T, epoch uint64, body []byte, end int, want []api.Sec) {
	t.Helper()
	if got := Whole(epoch, body, end); !slices.Equal(got, want) {
		t.Fatalf("Whole(%d, %d bytes, %d) = %v, not %v", epoch, len(body), end, got, want)
	}
}
