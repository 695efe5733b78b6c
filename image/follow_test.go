package image

import (
	"bytes"
	"slices"
	"testing"

	"strandline/api"
	"strandline/frag"
	"strandline/join"
	"strandline/plan"
)

// fitting are those of lists() that a segment has room for, and some that fill it.
func fitting() [][][]byte {
	var l [][][]byte
	for _, records := range lists() {
		if slowLaid(1, records).ok {
			l = append(l, records)
		}
	}
	return append(l, recordsOf(many(64, 0)...), recordsOf(many(16, 41)...), recordsOf(many(4, most)...), recordsOf(777, 0), recordsOf(whole))
}

// P17.3: a laid body is what Add makes, record by record, of bytes 0, of nil, and of none.
func TestBodyIsAdd(t *testing.T) {
	for i, l := range fitting() {
		epoch := epochs()[i%len(epochs())]
		for _, body := range [][]byte{make([]byte, all), nil, {}, make([]byte, all+50), roomy(nil)} {
			end, places := 0, []int{}
			for _, data := range l {
				next, behind, ok := Add(epoch, body, end, data)
				if !ok {
					t.Fatalf("the lengths %v: Add at %d has no room", lengthsOf(l), end)
				}
				places = append(places, begin(end))
				body, end = next, behind
			}
			got, gotEnd, ok := Body(epoch, l)
			if want := append(body, make([]byte, all)...)[:all]; !ok || gotEnd != end || !slices.Equal(got, want) {
				t.Fatalf("the lengths %v: Body to %d isn't what Add makes, to %d", lengthsOf(l), gotEnd, end)
			}
			if got, ok := Places(l); !ok || !slices.Equal(got, places) {
				t.Fatalf("the lengths %v: Places = %v, not %v", lengthsOf(l), got, places)
			}
		}
	}
}

// P17.3: a record that Add has no room for behind others is just one with which they don't fit.
func TestAddMoreIsBody(t *testing.T) {
	for i, l := range fitting() {
		epoch := epochs()[i%len(epochs())]
		body, end, _ := Body(epoch, l)
		for _, n := range []int{0, 1, 9, 40, 100, most, most + 1, 400, whole} {
			data := mixed(n, n)
			got, behind, ok := Add(epoch, body, end, data)
			want, wantEnd, fits := Body(epoch, append(slices.Clone(l), data))
			if !slices.Equal(got, want) || behind != wantEnd || ok != fits {
				t.Fatalf("the lengths %v and %d: Add tells %d, %t, Body %d, %t", lengthsOf(l), n, behind, ok, wantEnd, fits)
			}
		}
	}
}

// P17.3: what is laid with more records has the one with fewer as its beginning, and its places too.
func TestBeginning(t *testing.T) {
	for i, l := range fitting() {
		epoch := epochs()[i%len(epochs())]
		more, moreEnd, _ := Body(epoch, l)
		morePlaces, _ := Places(l)
		for k := range len(l) + 1 {
			body, end, ok := Body(epoch, l[:k])
			if !ok || end > moreEnd || !slices.Equal(body[:end], more[:end]) || !slices.Equal(body[end:], make([]byte, all-end)) {
				t.Fatalf("the first %d of the lengths %v: not the beginning, to %d", k, lengthsOf(l), end)
			}
			if places, ok := Places(l[:k]); !ok || !slices.Equal(places, morePlaces[:k]) {
				t.Fatalf("the first %d of the lengths %v: places %v, not of %v", k, lengthsOf(l), places, morePlaces)
			}
		}
	}
}

// P17.1: the sectors have the laid body's bytes, up to its end, and no sector behind that.
func TestSectorsHaveBody(t *testing.T) {
	for i, l := range fitting() {
		for _, epoch := range []uint64{1, 1<<64 - 1, max(epochs()[i%len(epochs())], 1)} {
			body, end, _ := Body(epoch, l)
			secs, _ := Sectors(epoch, l)
			got, is := plan.Flat(epoch, secs)
			if !slices.Equal(got, body) {
				t.Fatalf("the lengths %v: of the sectors %s", lengthsOf(l), differ(got, body))
			}
			for i, is := range is {
				if is != (room*i < end) || !is && secs[i] != (api.Sec{}) {
					t.Fatalf("the lengths %v, to %d: sector %d is %v", lengthsOf(l), end, i, secs[i])
				}
			}
		}
	}
}

// told are the records that b's fragments of that epoch come to, place by place from at on, and the place behind.
func told(t *testing.T, epoch uint64, b []byte, at, count int) ([]byte, int) {
	t.Helper()
	j := join.New()
	for range count {
		at = begin(at)
		f, size, e := frag.Decode(b[at:min(at-at%block+block, all)], uint32(epoch))
		if e != api.OK {
			t.Fatalf("at %d: no fragment, %d", at, e)
		}
		at += size
		data, ok, e := j.Feed(f)
		if ok || e != api.OK {
			return data, at
		}
	}
	return nil, at
}

// P17.1: at each place the record's own fragments are read, one behind the other, till its last one.
func TestReadBack(t *testing.T) {
	for i, l := range fitting() {
		epoch := epochs()[i%len(epochs())]
		body, end, _ := Body(epoch, l)
		places, _ := Places(l)
		for k, data := range l {
			// A joiner has no record that is longer than a log's.
			if len(data) > api.MaxRecord {
				continue
			}
			got, behind := told(t, epoch, body, places[k], 5)
			if !bytes.Equal(got, data) {
				t.Fatalf("the lengths %v: at %d there is %v, not %v", lengthsOf(l), places[k], got, data)
			}
			if k+1 < len(l) && begin(behind) != places[k+1] || k+1 == len(l) && behind != end {
				t.Fatalf("the lengths %v: behind the record %d is %d", lengthsOf(l), k, behind)
			}
		}
	}
}
