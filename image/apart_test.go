package image

import (
	"slices"
	"testing"

	"strandline/api"
)

// spoil turns all bits of b, and of the room behind its end.
func spoil(b []byte) {
	for i := range b[:cap(b)] {
		b[:cap(b)][i] ^= 255
	}
}

// spoilRecords turns all bits of l's records, and of the room behind their ends, and puts others at l's places.
func spoilRecords(l [][]byte) {
	for i, data := range l[:cap(l)] {
		spoil(data)
		l[:cap(l)][i] = []byte{1, 2, 3}
	}
}

// full are b's bytes, and those in the room behind its end, as they are now.
func full(b []byte) []byte {
	return slices.Clone(b[:cap(b)])
}

// fullRecords are l's records, and those in the room behind its end, each as it is now with the room behind its end.
func fullRecords(l [][]byte) [][]byte {
	var was [][]byte
	for _, data := range l[:cap(l)] {
		was = append(was, full(data))
	}
	return was
}

func sameRecords(a, b [][]byte) bool {
	return slices.EqualFunc(a, b, slices.Equal[[]byte])
}

// apartLists are lists with room behind their ends, in which there are further records.
func apartLists() [][][]byte {
	l := [][][]byte{recordsOf(10, 20, 30, 40)[:0], recordsOf(10, 20, 30)[:1], recordsOf(0, 0, 0, 5, 6)[:4], recordsOf(0, 400, 0, 30, 9)[:4], recordsOf(300, 300, 300, 9)[:3], recordsOf(789, 1)[:1], recordsOf(10, 789, 1)[:2]}
	return append(l, recordsOf(append(many(16, 41), 41, 41)...)[:16], recordsOf(append(many(64, 0), 0, 0)...)[:65])
}

// P17.1: lists and records that were given, and the room behind their ends, stay as they were.
func TestGivenStays(t *testing.T) {
	for _, l := range apartLists() {
		was, n := fullRecords(l), len(l)
		for _, epoch := range epochs() {
			Body(epoch, l)
			Sectors(epoch, l)
			Places(l)
		}
		if !sameRecords(fullRecords(l), was) || len(l) != n {
			t.Errorf("of the lengths %v: what was given has changed", lengthsOf(l))
		}
		// What stands in the room behind a list's end plays no part.
		sameLaid(t, 4, l, slowLaid(4, slices.Clone(l)))
	}
}

// P17.1: what is answered has none of what was given, and stays as it was when that changes.
func TestAnswerApart(t *testing.T) {
	for _, l := range apartLists() {
		want := slowLaid(4, l)
		body, end, ok := Body(4, l)
		secs, _ := Sectors(4, l)
		wantSecs := slices.Clone(secs)
		places, _ := Places(l)
		spoilRecords(l)
		if !slices.Equal(body, want.body) || end != want.end || ok != want.ok || !slices.Equal(secs, wantSecs) || !slices.Equal(places, want.places) {
			t.Errorf("to the end %d: an answer has changed with what was given", want.end)
		}
	}
}

// P17.1: what is answered has none of what was answered ahead, with the room behind its end.
func TestAnswersApart(t *testing.T) {
	for _, l := range apartLists() {
		want := slowLaid(4, l)
		body, _, _ := Body(4, l)
		secs, _ := Sectors(4, l)
		places, _ := Places(l)
		spoil(body)
		for i := range secs[:cap(secs)] {
			secs[:cap(secs)][i] = api.Sec{7}
		}
		for i := range places[:cap(places)] {
			places[:cap(places)][i] = -7
		}
		sameLaid(t, 4, l, want)
	}
}

// P17.1: what is answered may be added to, and no other answer changes.
func TestGrowApart(t *testing.T) {
	for _, l := range apartLists() {
		want := slowLaid(4, l)
		body, _, _ := Body(4, l)
		secs, _ := Sectors(4, l)
		places, _ := Places(l)
		wantSecs := slices.Clone(secs)
		other, _, _ := Body(4, l)
		otherSecs, _ := Sectors(4, l)
		otherPlaces, _ := Places(l)
		_, _, _ = append(other, 1, 2, 3), append(otherSecs, api.Sec{9}), append(otherPlaces, 5)
		if !slices.Equal(body, want.body) || !slices.Equal(secs, wantSecs) || !slices.Equal(places, want.places) {
			t.Errorf("of the lengths %v: an answer has changed with another one", lengthsOf(l))
		}
	}
}

// P17.2: the body and the data that Add is given, and the room behind their ends, stay as they were; its answer is new memory, apart from both and from what was answered ahead.
func TestAddApart(t *testing.T) {
	for i, body := range bodies() {
		for _, at := range []int{-1, 0, 41, 42, 197, 500, 780, 821, 822, 832, 900} {
			for _, n := range []int{0, 1, 12, 197, 198, 300, 788, 789} {
				data := roomy(mixed(i, n))
				wasBody, wasData := full(body), full(data)
				want, wantBehind, _ := slowAdd(2, body, at, data)
				got, _, _ := Add(2, body, at, data)
				other, _, _ := Add(2, body, at, data)
				spoil(other)
				if !slices.Equal(full(body), wasBody) || !slices.Equal(full(data), wasData) {
					t.Fatalf("Add(%d bytes, %d, %d bytes): what was given has changed", len(body), at, n)
				}
				spoil(body)
				spoil(data)
				if !slices.Equal(got, want) {
					t.Fatalf("Add(%d bytes, %d, %d bytes): its answer isn't new memory", len(body), at, n)
				}
				spoil(body)
				spoil(data)
				if next, behind, _ := Add(2, body, at, data); !slices.Equal(next, want) || behind != wantBehind {
					t.Fatalf("Add(%d bytes, %d, %d bytes) once more: %d, %s", len(body), at, n, behind, differ(next, want))
				}
			}
		}
	}
}

// P17.2: bytes in the room behind the body's end play no part: what lacks is 0.
func TestAddRoomBehind(t *testing.T) {
	for _, n := range []int{0, 1, 11, 12, 52, 208, 500, 831} {
		body := roomy(slices.Repeat([]byte{5}, n))
		got, _, ok := Add(2, body, 0, nil)
		if !ok || len(got) != all {
			t.Fatalf("Add to %d bytes: %d, %t", n, len(got), ok)
		}
		for at, x := range got {
			if at >= head && at < n && x != 5 || at >= max(head, n) && x != 0 {
				t.Fatalf("Add to %d bytes: at %d there is %d", n, at, x)
			}
		}
	}
}
