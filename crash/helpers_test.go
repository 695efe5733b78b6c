package crash

import (
	"math"
	"reflect"
	"testing"

	"strandline/api"
)

// A crash's numbers, as they are told in no code but here.
const (
	size    = 64
	counted = 4096
)

// mark is a sector that is at each of its bytes unlike that of another mark from 1 to 250, and unlike the empty one, which is that of 0.
func mark(k int) api.Sec {
	var s api.Sec
	if k == 0 {
		return s
	}
	for i := range s {
		s[i] = byte(1 + (5*k+i)%251)
	}
	return s
}

// marks are the sectors of n marks, from the mark k on; from 125 on they come again from behind.
func marks(k, n int) []api.Sec {
	var l []api.Sec
	for i := range n {
		l = append(l, mark(k+i%125))
	}
	return l
}

// torn is a sector whose first bytes are those of next, the others those of old, byte by byte.
func torn(old, next api.Sec, cut int) api.Sec {
	var s api.Sec
	for i := range s {
		if i < cut {
			s[i] = next[i]
		} else {
			s[i] = old[i]
		}
	}
	return s
}

// bits are Keep's bits, one behind the other, by halving its bytes.
func bits(keep []byte) []bool {
	var l []bool
	for _, b := range keep {
		for range 8 {
			l = append(l, b%2 == 1)
			b /= 2
		}
	}
	return l
}

// slowApply is Apply, by the chapter's words.
func slowApply(old, next []api.Sec, c api.Crash) []api.Sec {
	var l []api.Sec
	keep := bits(c.Keep)
	for i := 0; i < len(old) && i < len(next); i++ {
		s := old[i]
		if i < len(keep) && keep[i] {
			s = next[i]
		}
		if i == c.Torn {
			s = torn(old[i], next[i], c.Cut)
		}
		l = append(l, s)
	}
	return l
}

// slowKept is Kept, by the chapter's words.
func slowKept(c api.Crash, n int) int {
	whole := 0
	for i, kept := range bits(c.Keep) {
		if kept && i < n && i < counted && i != c.Torn {
			whole++
		}
	}
	return whole
}

// alike tells whether two lists of sectors have the same ones; none are none.
func alike(a, b []api.Sec) bool {
	return len(a) == len(b) && (len(a) == 0 || reflect.DeepEqual(a, b))
}

// ones are n bytes of which every bit is 1.
func ones(n int) []byte {
	b := make([]byte, n)
	for i := range b {
		b[i] = 255
	}
	return b
}

// cuts are a Cut's bounds, what is beside and between them, and what is far beyond.
func cuts() []int {
	return []int{math.MinInt, math.MinInt + 1, math.MinInt32, -65, -64, -2, -1, 0, 1, 2, 11, 12, 31, 32, 33, 62, 63, 64, 65, 66, 127, 128, 256, 320, math.MaxInt32, math.MaxUint32 + 1, math.MaxUint32 + 12, math.MaxInt - 1, math.MaxInt}
}

// clamped is n as the nearer one of 0 and most, by counting out the cases.
func clamped(n, most int) int {
	if n < 0 {
		return 0
	}
	if n > most {
		return most
	}
	return n
}

// sameCrashes holds a list of crashes against the one that is wanted, field by field.
func sameCrashes(t *testing.T, what string, got, want []api.Crash) {
	t.Helper()
	if len(got) != len(want) {
		t.Fatalf("%s: %d crashes, want %d", what, len(got), len(want))
	}
	for k := range want {
		if !reflect.DeepEqual(got[k], want[k]) {
			t.Errorf("%s: the crash %d is %v, want %v", what, k, got[k], want[k])
		}
	}
}
