package header

import (
	"math"
	"testing"

	"strandline/api"
)

// P18.1: Newer written out: of one Epoch and of two, of one Seq and of two, at the ends of their types.
func TestNewer(t *testing.T) {
	for _, c := range []struct {
		epoch  uint64
		seq    int
		other  uint64
		behind int
		want   bool
	}{
		{1, 1, 1, 1, false}, {1, 2, 1, 1, true}, {1, 1, 1, 2, false},
		{2, 1, 1, 1, true}, {1, 1, 2, 1, false},
		{2, 1, 1, 2, true}, {1, 2, 2, 1, false}, {2, 2, 1, 1, true}, {1, 1, 2, 2, false},
		{2, math.MinInt, 1, math.MaxInt, true}, {1, math.MaxInt, 2, math.MinInt, false},

		{0, 0, 0, 0, false}, {1, 0, 0, 0, true}, {0, 0, 1, 0, false}, {0, 1, 0, 0, true}, {0, 0, 0, 1, false}, {0, 9, 1, 0, false},
		{1<<64 - 1, 0, 1<<64 - 1, 0, false}, {1<<64 - 1, 0, 0, 0, true}, {0, 0, 1<<64 - 1, 0, false},
		{1<<64 - 1, 0, 1<<64 - 2, 9, true}, {1<<64 - 2, 9, 1<<64 - 1, 0, false}, {1<<64 - 1, 1, 1<<64 - 1, 0, true}, {1<<64 - 1, 0, 1<<64 - 1, 1, false},
		{1 << 63, 0, 1<<63 - 1, 0, true}, {1<<63 - 1, 0, 1 << 63, 0, false}, {1 << 63, 0, 1, 0, true}, {1, 0, 1 << 63, 0, false},
		{1 << 32, 0, 1<<32 - 1, 0, true}, {1<<32 - 1, 0, 1 << 32, 0, false}, {1 << 32, 0, 1, 5, true}, {1, 5, 1 << 32, 0, false}, {1<<32 + 1, 1, 1, 1, true}, {1, 1, 1<<32 + 1, 1, false},

		{3, math.MinInt, 3, math.MinInt, false}, {3, math.MaxInt, 3, math.MaxInt, false},
		{3, math.MaxInt, 3, math.MinInt, true}, {3, math.MinInt, 3, math.MaxInt, false}, {3, math.MinInt + 1, 3, math.MinInt, true}, {3, math.MinInt, 3, math.MinInt + 1, false},
		{3, math.MaxInt, 3, math.MaxInt - 1, true}, {3, math.MaxInt - 1, 3, math.MaxInt, false},
		{3, 0, 3, -1, true}, {3, -1, 3, 0, false}, {3, 1, 3, -1, true}, {3, -1, 3, 1, false},
		{3, 1 << 32, 3, 1<<32 - 1, true}, {3, 1<<32 - 1, 3, 1 << 32, false}, {3, 1<<32 + 1, 3, 1, true}, {3, 1, 3, 1<<32 + 1, false},
		{3, 2147483647, 3, 2147483646, true}, {3, 2147483646, 3, 2147483647, false},
	} {
		a, b := api.Header{Epoch: c.epoch, Seq: c.seq}, api.Header{Epoch: c.other, Seq: c.behind}
		if Newer(a, b) != c.want {
			t.Errorf("Newer(%v, %v) = %t", a, b, !c.want)
		}
		// The other fields play no part, whichever of the two has the greater ones.
		for _, n := range []int{math.MinInt, -1, 0, 1, math.MaxInt} {
			a.First, b.First = n, -n
			a.Heads, b.Heads = [heads]int{-n, n, 0, n}, [heads]int{n, -n, n, 0}
			if Newer(a, b) != c.want {
				t.Errorf("Newer(%v, %v) = %t", a, b, !c.want)
			}
		}
	}
}

// P18.1: Newer of all Epochs and Seqs with each other: what the chapter's words tell, never both ways, and of two just one way, if Epoch or Seq is another one.
func TestNewerByWords(t *testing.T) {
	var l []api.Header
	seqs := append(rightLSNs(), wrongLSNs()...)
	for i, epoch := range epochs() {
		for k, seq := range seqs {
			l = append(l, api.Header{Epoch: epoch, Seq: seq, First: seqs[(i+k)%len(seqs)], Heads: [heads]int{i, k, -i, -k}})
		}
	}
	for _, a := range l {
		for _, b := range l {
			ahead, behind := Newer(a, b), Newer(b, a)
			if ahead != slowNewer(a, b) {
				t.Fatalf("Newer(%v, %v) = %t", a, b, ahead)
			}
			if unlike := a.Epoch != b.Epoch || a.Seq != b.Seq; ahead && behind || unlike != (ahead || behind) {
				t.Fatalf("Newer(%v, %v) = %t, and turned %t", a, b, ahead, behind)
			}
		}
	}
}

// P18.1: no header is newer than itself, right or not.
func TestNewerThanItself(t *testing.T) {
	for _, h := range append(headers(), manyHeaders(1000)...) {
		if Newer(h, h) {
			t.Fatalf("Newer(%v, itself) = true", h)
		}
	}
}
