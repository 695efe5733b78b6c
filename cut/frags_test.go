package cut

import (
	"math"
	"slices"
	"testing"

	"strandline/api"
	"strandline/frag"
)

// P14.2: fragments written out: one, two, three and four of them, with and without bytes of data.
func TestFragsWrittenOut(t *testing.T) {
	data := scatter(788)
	for _, epoch := range []uint32{0, 1, 1 << 31, 1<<32 - 1} {
		for _, c := range []struct {
			at, n int
			want  []part
		}{
			{0, 0, []part{{full, nil}}},
			{0, 3, []part{{full, data[:3]}}},
			{0, 197, []part{{full, data[:197]}}},
			{0, 198, []part{{first, data[:197]}, {last, data[197:198]}}},
			{0, 200, []part{{first, data[:197]}, {last, data[197:200]}}},
			{0, 788, []part{{first, data[:197]}, {middle, data[197:394]}, {middle, data[394:591]}, {last, data[591:]}}},
			{197, 0, []part{{full, nil}}},
			{197, 1, []part{{first, nil}, {last, data[:1]}}},
			{197, 198, []part{{first, nil}, {middle, data[:197]}, {last, data[197:198]}}},
			{42, 146, []part{{first, data[:145]}, {last, data[145:146]}}},
			{-5, 2, []part{{full, data[:2]}}},
			{math.MinInt, 198, []part{{first, data[:197]}, {last, data[197:198]}}},
			{820, 1, []part{{full, data[:1]}}},
			{821, 0, []part{{full, nil}}},
		} {
			want := writtenFrags(epoch, c.want)
			if got, ok := Frags(epoch, c.at, data[:c.n]); !sameFrags(got, want) || !ok {
				t.Errorf("Frags(%d, %d, %d bytes) = %v, %t, not %v", epoch, c.at, c.n, got, ok, want)
			}
		}
	}
}

// P14.2: no fragments, and false, where Cut is false.
func TestFragsNone(t *testing.T) {
	for _, epoch := range epochs() {
		for _, c := range []struct{ at, n int }{
			{0, 789}, {-1, 789}, {math.MinInt, 789}, {0, 1 << 20}, {41, 748}, {42, 737}, {197, 592}, {198, 592}, {624, 198}, {820, 2}, {821, 1}, {822, 0}, {822, 1}, {831, 0},
			{832, 0}, {832, 1}, {832, 788}, {833, 0}, {math.MaxInt, 0}, {math.MaxInt, 5}, {math.MaxInt, 1 << 20},
		} {
			if l, ok := Frags(epoch, c.at, mixed(c.n)); len(l) != 0 || ok {
				t.Errorf("Frags(%d, %d, %d bytes) = %v, %t", epoch, c.at, c.n, l, ok)
			}
		}
		for _, at := range []int{822, 832, math.MaxInt} {
			if l, ok := Frags(epoch, at, nil); len(l) != 0 || ok {
				t.Errorf("Frags(%d, %d, nil) = %v, %t", epoch, at, l, ok)
			}
		}
	}
}

// P14.2: nil, no data, and none of some are the same, from each place.
func TestFragsOfNoData(t *testing.T) {
	for i, at := range places() {
		epoch := epochs()[i%len(epochs())]
		want, wantOK := slowFrags(epoch, at, nil)
		for _, data := range [][]byte{nil, {}, roomy(nil), mixed(30)[:0]} {
			if got, ok := Frags(epoch, at, data); !sameFrags(got, want) || ok != wantOK {
				t.Fatalf("Frags(%d, %d, no bytes) = %v, %t, not %v, %t", epoch, at, got, ok, want, wantOK)
			}
		}
	}
}

// P14.2: Frags by the chapter's words, from each place, of data of each length up to one more than fits.
func TestFragsByWords(t *testing.T) {
	all := scatter(800)
	for i, at := range places() {
		for n := range max(slowRoom(at), 0) + 2 {
			epoch := epochs()[(i+n)%len(epochs())]
			want, wantOK := slowFrags(epoch, at, all[:n])
			if got, ok := Frags(epoch, at, all[:n]); !sameFrags(got, want) || ok != wantOK {
				t.Fatalf("Frags(%d, %d, %d bytes) = %v, %t, not %v, %t", epoch, at, n, got, ok, want, wantOK)
			}
		}
	}
}

// P14.2: the fragments are those of Cut's pieces, by each epoch, of data that has the telling bytes.
func TestFragsOfPieces(t *testing.T) {
	for _, epoch := range epochs() {
		for _, at := range places() {
			for _, n := range bounds(at) {
				data := mixed(n)
				pieces, _, ok := Cut(at, n)
				l, gotOK := Frags(epoch, at, data)
				if len(l) != len(pieces) || gotOK != ok {
					t.Fatalf("Frags(%d, %d, %d bytes) = %d ones, %t, of %d pieces, %t", epoch, at, n, len(l), gotOK, len(pieces), ok)
				}
				for i, p := range pieces {
					if l[i].Kind != p.Kind || l[i].Epoch != epoch || !slices.Equal(l[i].Data, data[p.From:p.To]) {
						t.Fatalf("Frags(%d, %d, %d bytes): %v of the piece %v", epoch, at, n, l[i], p)
					}
				}
			}
		}
	}
}

// P14.2: each fragment is right by layer 13, whose bytes are as many as stand from its piece's place up to the place behind it.
func TestFragsAreRight(t *testing.T) {
	for i, at := range places() {
		for _, n := range bounds(at) {
			epoch := epochs()[(i+n)%len(epochs())]
			pieces, behind, _ := Cut(at, n)
			l, _ := Frags(epoch, at, mixed(n))
			for k, f := range l {
				to := behind
				if k+1 < len(l) {
					to = pieces[k+1].At
				}
				b, e := frag.Encode(f)
				if e != api.OK || len(b) != to-pieces[k].At {
					t.Fatalf("Frags(%d, %d, %d bytes): of %v Encode tells %d bytes, %d", epoch, at, n, f, len(b), e)
				}
				if got, size, e := frag.Decode(b, epoch); !frag.Same(got, f) || size != len(b) || e != api.OK {
					t.Fatalf("Frags(%d, %d, %d bytes): %v is decoded as %v, %d, %d", epoch, at, n, f, got, size, e)
				}
			}
		}
	}
}

// P14.2: what was given, and the room behind it, is left as it was, and plays no part in what was answered; the answer's lists are apart from it and from one another.
func TestFragsApart(t *testing.T) {
	for at := 0; at <= end; at += 5 {
		for _, n := range bounds(at) {
			data := roomy(mixed(n))
			was := whole(data)
			want, _ := slowFrags(9, at, mixed(n))
			l, _ := Frags(9, at, data)
			again, _ := Frags(9, at, data)
			if !slices.Equal(whole(data), was) {
				t.Fatalf("Frags of %d bytes at %d changed what was given", n, at)
			}
			spoil(data)
			if !sameFrags(l, want) {
				t.Fatalf("Frags of %d bytes at %d share what was given", n, at)
			}
			spoil(data)
			for i := range l {
				spoil(l[i].Data)
				if !slices.Equal(whole(data), was) || !sameFrags(l[i+1:], want[i+1:]) || !sameFrags(again, want) {
					t.Fatalf("Frags of %d bytes at %d: the %dth one shares its Data", n, at, i)
				}
			}
			for i := range l {
				spoil(l[i].Data)
			}
			if !sameFrags(l, want) {
				t.Fatalf("Frags of %d bytes at %d share Data", n, at)
			}
			for i := range l[:cap(l)] {
				l[:cap(l)][i] = api.Frag{Kind: -1}
			}
			if got, _ := Frags(9, at, data); !sameFrags(got, want) || !sameFrags(again, want) {
				t.Fatalf("Frags of %d bytes at %d are others once more", n, at)
			}
		}
	}
}
