package crash

import (
	"math"
	"reflect"
	"testing"

	"strandline/api"
)

// The chapter's example, and the limits.
func TestExample(t *testing.T) {
	sameCrashes(t, "All(1)", All(1), []api.Crash{{Keep: []byte{0}, Torn: -1}, {Keep: []byte{1}, Torn: -1}})
	old, next := marks(1, 1), marks(2, 1)
	l := All(1)
	if got := Apply(old, next, l[0]); !alike(got, old) {
		t.Errorf("the first one leaves %v", got)
	}
	if got := Apply(old, next, l[1]); !alike(got, next) {
		t.Errorf("the second one leaves %v", got)
	}
	if api.Sector != size || api.MaxFiles*api.MaxSectors != counted {
		t.Errorf("Sector, MaxFiles, MaxSectors = %d, %d, %d", api.Sector, api.MaxFiles, api.MaxSectors)
	}
}

// P9.1: Mix at each cut, below 0, above 64, and far from both.
func TestMix(t *testing.T) {
	old, next := mark(1), mark(2)
	l := cuts()
	for cut := -70; cut <= 200; cut++ {
		l = append(l, cut)
	}
	for _, cut := range l {
		if got, want := Mix(old, next, cut), torn(old, next, cut); got != want {
			t.Errorf("Mix(%d) = %v, want %v", cut, got, want)
		}
		if old != mark(1) || next != mark(2) {
			t.Fatalf("Mix(%d) changed what it was given", cut)
		}
	}
}

// P9.1: Mix at the bounds, each byte written out.
func TestMixWrittenOut(t *testing.T) {
	var old, next api.Sec
	for i := range old {
		old[i], next[i] = 'o', 'n'
	}
	for _, c := range []struct{ cut, fresh int }{
		{math.MinInt, 0}, {-64, 0}, {-1, 0}, {0, 0}, {1, 1}, {12, 12}, {32, 32}, {63, 63}, {64, 64}, {65, 64}, {128, 64}, {math.MaxInt, 64},
	} {
		got := Mix(old, next, c.cut)
		for i, b := range got {
			if want := byte("no"[min(max(i-c.fresh+1, 0), 1)]); b != want {
				t.Errorf("Mix(%d): the byte %d is %c, want %c", c.cut, i, b, want)
			}
		}
	}
}

// P9.1: Mix of a sector with itself, and with the empty one.
func TestMixAlike(t *testing.T) {
	for _, cut := range cuts() {
		if got := Mix(mark(3), mark(3), cut); got != mark(3) {
			t.Errorf("Mix(%d) of a sector with itself is %v", cut, got)
		}
		if got, want := Mix(mark(0), mark(3), cut), torn(mark(0), mark(3), cut); got != want {
			t.Errorf("Mix(%d) with the empty one is %v", cut, got)
		}
		if got, want := Mix(mark(3), mark(0), cut), torn(mark(3), mark(0), cut); got != want {
			t.Errorf("Mix(%d) of the empty one is %v", cut, got)
		}
	}
}

// P9.1: Apply of a few sectors, written out: o is the old one, n the new one, m the mixed one.
func TestApplyWrittenOut(t *testing.T) {
	for _, c := range []struct {
		old, next int
		keep      []byte
		torn      int
		want      string
	}{
		{0, 0, nil, -1, ""},
		{0, 0, []byte{255}, 0, ""},
		{0, 3, []byte{255}, 0, ""},
		{3, 0, []byte{255}, 0, ""},
		{1, 1, nil, -1, "o"},
		{1, 1, []byte{}, -1, "o"},
		{1, 1, []byte{0}, -1, "o"},
		{1, 1, []byte{1}, -1, "n"},
		{1, 1, []byte{254}, -1, "o"},
		{1, 1, []byte{0}, 0, "m"},
		{1, 1, []byte{1}, 0, "m"},
		{1, 1, []byte{1}, 1, "n"},
		{1, 1, nil, 1, "o"},
		{3, 3, []byte{5}, -1, "non"},
		{3, 3, []byte{2}, -1, "ono"},
		{3, 3, []byte{7}, -1, "nnn"},
		{3, 3, []byte{5}, 0, "mon"},
		{3, 3, []byte{5}, 1, "nmn"},
		{3, 3, []byte{5}, 2, "nom"},
		{3, 3, []byte{5}, 3, "non"},
		{3, 3, []byte{5}, -2, "non"},
		{3, 3, []byte{5}, math.MinInt, "non"},
		{3, 3, []byte{5}, math.MaxInt, "non"},
		{3, 3, nil, 1, "omo"},
		{2, 4, []byte{15}, -1, "nn"},
		{4, 2, []byte{15}, -1, "nn"},
		{2, 4, []byte{15}, 1, "nm"},
		{4, 2, []byte{15}, 1, "nm"},
		{2, 4, []byte{15}, 2, "nn"},
		{4, 2, []byte{15}, 2, "nn"},
		{4, 2, []byte{12}, 3, "oo"},
		{9, 9, []byte{255}, -1, "nnnnnnnno"},
		{9, 9, []byte{0, 1}, -1, "oooooooon"},
		{9, 9, []byte{128}, 8, "ooooooonm"},
		{10, 11, []byte{129, 2}, 9, "noooooonom"},
		{10, 11, []byte{129, 2, 255, 255}, 10, "noooooonon"},
	} {
		old, next := marks(1, c.old), marks(125, c.next)
		got := Apply(old, next, api.Crash{Keep: c.keep, Torn: c.torn, Cut: 20})
		if len(got) != len(c.want) {
			t.Errorf("Apply of %d, %d: %d sectors, want %d", c.old, c.next, len(got), len(c.want))
			continue
		}
		for i, s := range got {
			want := map[byte]api.Sec{'o': old[i], 'n': next[i], 'm': torn(old[i], next[i], 20)}
			if s != want[c.want[i]] {
				t.Errorf("Apply of %d, %d, Keep %v, Torn %d: the sector %d is %v", c.old, c.next, c.keep, c.torn, i, s)
			}
		}
	}
}

// keeps are Keeps for n sectors: empty, shorter, just as long and longer, of none, all and some.
func keeps(n int) [][]byte {
	l := [][]byte{nil, {}, {0}, {1}, {254}, {0x55}, {0xAA, 0x0F}}
	long := make([]byte, n/8+3)
	some := make([]byte, n/8+1)
	for i := range some {
		some[i] = byte(37*i + 91)
	}
	return append(l, ones(n/8), ones(n/8+1), ones(n/8+9), long, some)
}

// places are a Torn's bounds over n sectors, what is beside and between them, and what is far beyond.
func places(n int) []int {
	return []int{math.MinInt, -n, -2, -1, 0, 1, n / 2, n - 2, n - 1, n, n + 1, 2 * n, math.MaxInt32, math.MaxUint32 + 1, math.MaxInt}
}

// P9.1: Apply of no sectors to many, of lists of different length, by any Keep, Torn and Cut, held against the chapter's words.
func TestApply(t *testing.T) {
	for _, c := range []struct{ old, next int }{
		{0, 0}, {0, 5}, {5, 0}, {1, 1}, {1, 2}, {2, 1}, {2, 2}, {3, 7}, {7, 3}, {7, 7}, {8, 8}, {9, 9}, {9, 17}, {17, 9}, {63, 63}, {64, 64}, {65, 65}, {65, 70}, {70, 65}, {130, 130},
	} {
		old, next := marks(1, c.old), marks(126, c.next)
		shorter := min(c.old, c.next)
		for _, keep := range keeps(shorter) {
			for _, at := range places(shorter) {
				for _, cut := range cuts() {
					crash := api.Crash{Keep: keep, Torn: at, Cut: cut}
					if got, want := Apply(old, next, crash), slowApply(old, next, crash); !alike(got, want) {
						t.Fatalf("Apply of %d, %d by %v = %v, want %v", c.old, c.next, crash, got, want)
					}
				}
			}
		}
	}
}

// P9.1: Apply of as many sectors as a disk has, and more: it has no bound.
func TestApplyOfMany(t *testing.T) {
	for _, n := range []int{4095, 4096, 4097, 5000} {
		old, next := marks(1, n), marks(126, n)
		for _, at := range []int{-1, 0, 4095, 4096, n - 1, n} {
			crash := api.Crash{Keep: ones(n/8 + 1), Torn: at, Cut: 30}
			if got := Apply(old, next, crash); !alike(got, slowApply(old, next, crash)) {
				t.Errorf("Apply of %d by Torn %d is not as it must be", n, at)
			}
		}
	}
}

// P9.1: what Apply answers is apart from what it was given, and that stays as it was, behind the lists' ends too.
func TestApplyApart(t *testing.T) {
	for _, crash := range []api.Crash{{Torn: -1}, {Keep: []byte{255, 9}, Torn: -1}, {Keep: []byte{5, 9}, Torn: 1, Cut: 20}, {Keep: []byte{7, 9}, Torn: 2, Cut: 64}} {
		old, next, keep := marks(1, 6), marks(11, 6), append([]byte{}, crash.Keep...)
		given := crash
		given.Keep = keep[:min(len(keep), 1)]
		got := Apply(old[:3], next[:3], given)
		want := slowApply(marks(1, 3), marks(11, 3), api.Crash{Keep: crash.Keep[:min(len(keep), 1)], Torn: crash.Torn, Cut: crash.Cut})
		for i := range old {
			old[i], next[i] = mark(50), mark(60)
		}
		if !alike(got, want) {
			t.Errorf("%v: what was answered changes with what was given", crash)
		}
		old, next = marks(1, 6), marks(11, 6)
		got = Apply(old[:3], next[:3], given)
		_ = append(got, mark(70), mark(71), mark(72))
		for i := range got {
			got[i] = mark(80)
		}
		if !alike(old, marks(1, 6)) || !alike(next, marks(11, 6)) || string(keep) != string(crash.Keep) {
			t.Errorf("%v: what was given is changed", crash)
		}
	}
}

// P9.1: two answers of Apply are apart.
func TestApplyTwice(t *testing.T) {
	old, next := marks(1, 4), marks(11, 4)
	crash := api.Crash{Keep: []byte{6}, Torn: 3, Cut: 9}
	a, b := Apply(old, next, crash), Apply(old, next, crash)
	if !alike(a, b) {
		t.Fatal("two answers differ")
	}
	for i := range a {
		a[i] = mark(90)
	}
	if !alike(b, slowApply(old, next, crash)) {
		t.Error("two answers share what they have")
	}
}

// P9.1: Kept, written out.
func TestKeptWrittenOut(t *testing.T) {
	full := ones(600)
	for _, c := range []struct {
		keep          []byte
		torn, n, want int
	}{
		{nil, -1, 0, 0},
		{nil, -1, 4096, 0},
		{nil, 0, 9, 0},
		{[]byte{}, -1, 9, 0},
		{[]byte{1}, -1, math.MinInt, 0},
		{[]byte{1}, -1, -1, 0},
		{[]byte{1}, -1, 0, 0},
		{[]byte{1}, -1, 1, 1},
		{[]byte{1}, -1, 2, 1},
		{[]byte{1}, 0, 1, 0},
		{[]byte{1}, 1, 1, 1},
		{[]byte{2}, -1, 1, 0},
		{[]byte{2}, -1, 2, 1},
		{[]byte{255}, -1, 7, 7},
		{[]byte{255}, -1, 8, 8},
		{[]byte{255}, -1, 9, 8},
		{[]byte{255}, 3, 9, 7},
		{[]byte{255}, 8, 9, 8},
		{[]byte{247}, 3, 9, 7},
		{[]byte{255}, 4, 5, 4},
		{[]byte{255}, 5, 5, 5},
		{[]byte{255}, 6, 5, 5},
		{[]byte{0, 129}, -1, 16, 2},
		{[]byte{0, 129}, -1, 15, 1},
		{[]byte{0, 129}, 15, 16, 1},
		{full, -1, 4095, 4095},
		{full, -1, 4096, 4096},
		{full, -1, 4097, 4096},
		{full, -1, math.MaxInt, 4096},
		{full, 4095, 4095, 4095},
		{full, 4095, 4096, 4095},
		{full, 4095, 4097, 4095},
		{full, 4096, 4097, 4096},
		{full, 4096, math.MaxInt, 4096},
		{full, math.MaxInt, math.MaxInt, 4096},
		{full, math.MinInt, math.MinInt, 0},
		{full, 0, 4096, 4095},
	} {
		// A torn one isn't kept whole, wherever it is cut.
		for _, cut := range cuts() {
			if got := Kept(api.Crash{Keep: c.keep, Torn: c.torn, Cut: cut}, c.n); got != c.want {
				t.Errorf("Kept of %d bytes, Torn %d, Cut %d, n %d = %d, want %d", len(c.keep), c.torn, cut, c.n, got, c.want)
			}
		}
	}
}

// P9.1: Torn, written out; n's bound in Kept is none of Torn.
func TestTornWrittenOut(t *testing.T) {
	for _, c := range []struct {
		torn, n int
		want    bool
	}{
		{-1, 0, false},
		{-1, 9, false},
		{-1, math.MaxInt, false},
		{-1, math.MinInt, false},
		{math.MinInt, math.MinInt, false},
		{math.MinInt, 0, false},
		{math.MinInt, math.MaxInt, false},
		{-2, -1, false},
		{-5, -3, false},
		{0, math.MinInt, false},
		{0, -1, false},
		{0, 0, false},
		{0, 1, true},
		{0, math.MaxInt, true},
		{1, 1, false},
		{1, 2, true},
		{4, 5, true},
		{5, 5, false},
		{6, 5, false},
		{4095, 4095, false},
		{4095, 4096, true},
		{4095, 4097, true},
		{4095, math.MaxInt, true},
		{4096, 4096, false},
		{4096, 4097, true},
		{4097, 4097, false},
		{math.MaxInt, math.MaxInt, false},
		{math.MaxInt - 1, math.MaxInt, true},
		{math.MaxInt, math.MinInt, false},
	} {
		for _, keep := range [][]byte{nil, {}, {0}, {255}, ones(600)} {
			for _, cut := range cuts() {
				if got := Torn(api.Crash{Keep: keep, Torn: c.torn, Cut: cut}, c.n); got != c.want {
					t.Errorf("Torn of %d, n %d = %v", c.torn, c.n, got)
				}
			}
		}
	}
}

// P9.1: Kept and Torn of any crash and n, held against the chapter's words; and Keep stays as it was.
func TestKeptAndTorn(t *testing.T) {
	numbers := []int{math.MinInt, math.MinInt32, -4096, -1, 0, 1, 2, 7, 8, 9, 15, 16, 17, 63, 64, 65, 100, 4095, 4096, 4097, 4800, 5000, math.MaxInt32, math.MaxUint32 + 1, math.MaxInt - 1, math.MaxInt}
	for _, n := range numbers {
		for _, keep := range append(keeps(20), keeps(4096)...) {
			for _, at := range append(numbers, clamped(n, 5000)-1, clamped(n, 5000)) {
				before := string(keep)
				c := api.Crash{Keep: keep, Torn: at, Cut: 5}
				if got, want := Kept(c, n), slowKept(c, n); got != want {
					t.Fatalf("Kept of %d bytes, Torn %d, n %d = %d, want %d", len(keep), at, n, got, want)
				}
				if got, want := Torn(c, n), at >= 0 && at < n; got != want {
					t.Fatalf("Torn of %d, n %d = %v", at, n, got)
				}
				if string(keep) != before {
					t.Fatal("Keep is changed")
				}
			}
		}
	}
}

// What Apply leaves is what Kept and Torn tell of it.
func TestApplyAsCounted(t *testing.T) {
	old, next := marks(1, 20), marks(126, 20)
	for _, keep := range keeps(20) {
		for _, at := range places(20) {
			c := api.Crash{Keep: keep, Torn: at, Cut: 20}
			fresh, mixed := 0, 0
			for i, s := range Apply(old, next, c) {
				switch {
				case s == next[i]:
					fresh++
				case s != old[i]:
					mixed++
				}
			}
			if fresh != Kept(c, 20) || (mixed == 1) != Torn(c, 20) || mixed > 1 {
				t.Errorf("%v leaves %d new ones, %d mixed ones; Kept %d, Torn %v", c, fresh, mixed, Kept(c, 20), Torn(c, 20))
			}
		}
	}
}

// The functions that yield stop where they are told to.
func TestYieldStops(t *testing.T) {
	for stop := range 9 {
		var got []api.Crash
		for c := range choices(3) {
			if len(got) == stop {
				break
			}
			got = append(got, c)
		}
		sameCrashes(t, "choices(3)", got, All(3)[:min(stop, 8)])
	}
	for stop := range 26 {
		var got []api.Crash
		for c := range tears(3, 7) {
			if len(got) == stop {
				break
			}
			got = append(got, c)
		}
		sameCrashes(t, "tears(3, 7)", got, Tears(3, 7)[:min(stop, 24)])
	}
	if !reflect.DeepEqual(All(3), All(3)) {
		t.Error("two answers differ")
	}
}
