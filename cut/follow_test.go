package cut

import (
	"slices"
	"testing"

	"strandline/api"
	"strandline/frag"
	"strandline/span"
)

// P14.3: from each place, of each length that fits: pieces follow one another without a gap, none crosses a block, no head crosses a sector.
func TestPiecesFollow(t *testing.T) {
	for at := range end + 1 {
		for n := range Room(at) + 1 {
			l, behind, ok := Cut(at, n)
			if !ok || len(l) == 0 || l[0].At != span.Begin(at) {
				t.Fatalf("Cut(%d, %d) = %v, %d, %t", at, n, l, behind, ok)
			}
			next := l[0].At
			for _, p := range l {
				if p.At != next {
					t.Fatalf("Cut(%d, %d) = %v: a gap ahead of %d", at, n, l, p.At)
				}
				next = p.At + api.Head + p.To - p.From
				if p.At/block != (next-1)/block || span.Left(p.At) < next-p.At {
					t.Fatalf("Cut(%d, %d) = %v: %v crosses a block", at, n, l, p)
				}
				if p.At/room != (p.At+api.Head-1)/room || span.Begin(p.At) != p.At {
					t.Fatalf("Cut(%d, %d) = %v: the head of %v crosses a sector", at, n, l, p)
				}
			}
			if behind != next || behind > end {
				t.Fatalf("Cut(%d, %d) = %v, %d", at, n, l, behind)
			}
		}
	}
}

// P14.3: together the pieces have all of the record's bytes, in order; each that isn't the last one goes up to its block's end.
func TestPiecesHaveAll(t *testing.T) {
	for at := range end + 1 {
		for n := range Room(at) + 1 {
			l, _, _ := Cut(at, n)
			had := 0
			for i, p := range l {
				if p.From != had || p.To < p.From {
					t.Fatalf("Cut(%d, %d) = %v: %v has not what is next", at, n, l, p)
				}
				had = p.To
				if i < len(l)-1 && (p.At+api.Head+p.To-p.From)%block != 0 {
					t.Fatalf("Cut(%d, %d) = %v: %v ends ahead of its block's end", at, n, l, p)
				}
				if i > 0 && p.To == p.From {
					t.Fatalf("Cut(%d, %d) = %v: %v has nothing, behind another one", at, n, l, p)
				}
			}
			if had != n {
				t.Fatalf("Cut(%d, %d) = %v: they have %d bytes", at, n, l, had)
			}
		}
	}
}

// P14.3: the kinds are FragFull alone, or FragFirst, FragMiddles and FragLast.
func TestKindsFollow(t *testing.T) {
	wants := [][]int{{}, {full}, {first, last}, {first, middle, last}, {first, middle, middle, last}}
	seen := make([]int, len(wants))
	for at := range end + 1 {
		for n := range Room(at) + 1 {
			l, _, _ := Cut(at, n)
			var kinds []int
			for _, p := range l {
				kinds = append(kinds, p.Kind)
			}
			if len(l) >= len(wants) || !slices.Equal(kinds, wants[len(l)]) {
				t.Fatalf("Cut(%d, %d): the kinds are %v", at, n, kinds)
			}
			seen[len(l)]++
		}
	}
	if seen[0] > 0 || slices.Min(seen[1:]) < 1000 {
		t.Errorf("how many have no piece, one and so on: %v", seen)
	}
}

// P14.3: a longer record doesn't fit where a shorter one doesn't, whoever is asked.
func TestLongerDoesNotFit(t *testing.T) {
	data := make([]byte, 1<<17)
	for _, at := range places() {
		cut, fits, frags := true, true, true
		var lengths []int
		for n := range 850 {
			lengths = append(lengths, n)
		}
		lengths = append(lengths, far()...)
		slices.Sort(lengths)
		for _, n := range lengths {
			_, _, ok := Cut(at, n)
			if ok && !cut || Fits(at, n) && !fits {
				t.Fatalf("at %d fits a record of %d bytes, and a shorter one doesn't", at, n)
			}
			cut, fits = ok, Fits(at, n)
			if n > len(data) {
				continue
			}
			_, ok = Frags(1, at, data[:n])
			if ok && !frags || ok != cut {
				t.Fatalf("at %d there are fragments of %d bytes, and of fewer there are none, or Cut tells %t", at, n, cut)
			}
			frags = ok
		}
		if cut || fits || frags {
			t.Fatalf("at %d all lengths fit", at)
		}
	}
}

// P14.3: fragments' bytes that are laid at their pieces' places, one record behind the other, are apart from one another, and are decoded there, up to the block's end, to all of the records' bytes.
func TestLaidIsRead(t *testing.T) {
	data := scatter(788)
	count := 0
	for _, start := range []int{0, 1, 30, 42, 100, 185, 186, 187, 196, 197, 198, 400, 405, 600, 700, 821} {
		for step := range 60 {
			epoch := epochs()[step%len(epochs())]
			body := make([]byte, end)
			var all []api.Piece
			var want []byte
			at := start
			for n := step; Fits(at, n); n += 7 * step {
				l, behind, _ := Cut(at, n)
				fs, _ := Frags(epoch, at, data[:n])
				lay(t, body, l, fs)
				all = append(all, l...)
				want = append(want, data[:n]...)
				at = behind
			}
			if got := read(t, body, epoch, all); !slices.Equal(got, want) {
				t.Fatalf("from %d on, step %d: %d bytes were laid, %d read", start, step, len(want), len(got))
			}
			count += len(all)
		}
	}
	if count < 4000 {
		t.Errorf("just %d fragments were laid", count)
	}
}

// lay puts fragments' bytes at their pieces' places in a body, where nothing else has any.
func lay(t *testing.T, body []byte, pieces []api.Piece, l []api.Frag) {
	t.Helper()
	for i, f := range l {
		at := pieces[i].At
		b, e := frag.Encode(f)
		if e != api.OK || at+len(b) > len(body) {
			t.Fatalf("%v at %d: Encode tells %d bytes, %d", f, at, len(b), e)
		}
		if slices.Max(body[at:at+len(b)]) != 0 {
			t.Fatalf("%v at %d: something stands there", f, at)
		}
		copy(body[at:], b)
	}
}

// read tells the bytes of all fragments that stand at their pieces' places in a body, one behind the other.
func read(t *testing.T, body []byte, epoch uint32, pieces []api.Piece) []byte {
	t.Helper()
	var l []byte
	for _, p := range pieces {
		f, size, e := frag.Decode(body[p.At:p.At+span.Left(p.At)], epoch)
		if e != api.OK || f.Kind != p.Kind || size != api.Head+p.To-p.From {
			t.Fatalf("at %v stands %v, %d, %d", p, f, size, e)
		}
		l = append(l, f.Data...)
	}
	return l
}
