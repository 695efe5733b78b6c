package crash

import (
	"math"
	"reflect"
	"strconv"
	"testing"

	"strandline/api"
	"strandline/disk"
)

// ns are an n's bounds, what is beside and between them, and what is far beyond.
func ns() []int {
	return []int{math.MinInt, math.MinInt + 1, math.MinInt32, -256, -8, -2, -1, 0, 1, 2, 3, 4, 5, 6, 7, 8, 9, 10, 16, 64, 255, 256, math.MaxInt32, math.MaxUint32 + 1, math.MaxUint32 + 3, math.MaxInt - 1, math.MaxInt}
}

// P9.2: All of every n: how many there are, and each one's Keep, Torn and Cut.
func TestAll(t *testing.T) {
	count := map[int]int{0: 1, 1: 2, 2: 4, 3: 8, 4: 16, 5: 32, 6: 64, 7: 128, 8: 256}
	for _, n := range ns() {
		var want []api.Crash
		for k := range count[clamped(n, 8)] {
			want = append(want, api.Crash{Keep: []byte{byte(k)}, Torn: -1, Cut: 0})
		}
		sameCrashes(t, "All("+strconv.Itoa(n)+")", All(n), want)
	}
}

// P9.2: All of two and of none, written out.
func TestAllWrittenOut(t *testing.T) {
	sameCrashes(t, "All(0)", All(0), []api.Crash{{Keep: []byte{0}, Torn: -1}})
	sameCrashes(t, "All(2)", All(2), []api.Crash{
		{Keep: []byte{0}, Torn: -1},
		{Keep: []byte{1}, Torn: -1},
		{Keep: []byte{2}, Torn: -1},
		{Keep: []byte{3}, Torn: -1},
	})
	last := All(8)[255]
	if !reflect.DeepEqual(last, api.Crash{Keep: []byte{255}, Torn: -1}) {
		t.Errorf("the last one of All(8) is %v", last)
	}
}

// P9.2: the k-th one of All keeps the sector i just if the bit i of k is 1; no two are alike.
func TestAllKeeps(t *testing.T) {
	for n := range 9 {
		seen := map[string]int{}
		for k, c := range All(n) {
			keep := bits(c.Keep)
			for i, rest := 0, k; i < 8; i, rest = i+1, rest/2 {
				if keep[i] != (rest%2 == 1) {
					t.Errorf("All(%d): the crash %d keeps %v", n, k, keep)
				}
			}
			seen[string(c.Keep)]++
		}
		if len(seen) != len(All(n)) {
			t.Errorf("All(%d): %d crashes are unlike, of %d", n, len(seen), len(All(n)))
		}
	}
}

// P9.2: Tears of every n and cut: how many there are, their order, and each one's Keep, Torn and Cut.
func TestTears(t *testing.T) {
	count := map[int]int{0: 1, 1: 2, 2: 4, 3: 8, 4: 16, 5: 32, 6: 64}
	for _, n := range ns() {
		for _, cut := range cuts() {
			var want []api.Crash
			for k := range count[clamped(n, 6)] {
				for i := range clamped(n, 6) {
					want = append(want, api.Crash{Keep: []byte{byte(k)}, Torn: i, Cut: cut})
				}
			}
			sameCrashes(t, "Tears("+strconv.Itoa(n)+", "+strconv.Itoa(cut)+")", Tears(n, cut), want)
		}
	}
}

// P9.2: Tears of none, one and two, written out; and how many there are of more.
func TestTearsWrittenOut(t *testing.T) {
	sameCrashes(t, "Tears(-1, 5)", Tears(-1, 5), nil)
	sameCrashes(t, "Tears(0, 5)", Tears(0, 5), nil)
	sameCrashes(t, "Tears(1, -7)", Tears(1, -7), []api.Crash{
		{Keep: []byte{0}, Torn: 0, Cut: -7},
		{Keep: []byte{1}, Torn: 0, Cut: -7},
	})
	sameCrashes(t, "Tears(2, 70)", Tears(2, 70), []api.Crash{
		{Keep: []byte{0}, Torn: 0, Cut: 70},
		{Keep: []byte{0}, Torn: 1, Cut: 70},
		{Keep: []byte{1}, Torn: 0, Cut: 70},
		{Keep: []byte{1}, Torn: 1, Cut: 70},
		{Keep: []byte{2}, Torn: 0, Cut: 70},
		{Keep: []byte{2}, Torn: 1, Cut: 70},
		{Keep: []byte{3}, Torn: 0, Cut: 70},
		{Keep: []byte{3}, Torn: 1, Cut: 70},
	})
	for _, c := range []struct{ n, want int }{{3, 24}, {4, 64}, {5, 160}, {6, 384}, {7, 384}, {8, 384}, {math.MaxInt, 384}} {
		if got := len(Tears(c.n, 1)); got != c.want {
			t.Errorf("Tears(%d): %d crashes, want %d", c.n, got, c.want)
		}
	}
}

// P9.2: Tears tells of each of All, in order, one for each sector; beside the torn one it keeps what All's does.
func TestTearsAsAll(t *testing.T) {
	for n := range 7 {
		l := Tears(n, 13)
		for k, c := range All(n) {
			for i := range n {
				got := l[k*n+i]
				if !Torn(got, n) || got.Torn != i || string(got.Keep) != string(c.Keep) {
					t.Errorf("Tears(%d): the crash of %d and %d is %v", n, k, i, got)
				}
			}
		}
	}
}

// P9.2: what becomes of one of them, within it and behind its end, changes no other, nor what is answered the next time.
func TestCrashesApart(t *testing.T) {
	for _, tell := range []func() []api.Crash{
		func() []api.Crash { return All(3) },
		func() []api.Crash { return All(8) },
		func() []api.Crash { return Tears(1, 9) },
		func() []api.Crash { return Tears(3, 9) },
		func() []api.Crash { return Tears(6, 9) },
	} {
		want := tell()
		for k := range want {
			l := tell()
			l[k].Keep[0] ^= 255
			room := l[k].Keep[:cap(l[k].Keep)]
			for i := range room[1:] {
				room[1+i] = 77
			}
			_ = append(l[k].Keep, 1, 2, 3, 4, 5, 6, 7, 8, 9)
			l[k].Torn, l[k].Cut = 1000, 1000
			for other := range want {
				if other != k && !reflect.DeepEqual(l[other], want[other]) {
					t.Fatalf("the crash %d changes with the crash %d", other, k)
				}
			}
			if !reflect.DeepEqual(tell(), want) {
				t.Fatalf("what is answered changes with the crash %d", k)
			}
		}
	}
}

// P9.3: behind each of All a sector is the old one or the new one, and each choice comes just once.
func TestChoices(t *testing.T) {
	for n := range 9 {
		old, next := marks(1, n), marks(101, n)
		seen := map[string]int{}
		for _, c := range All(n) {
			choice := ""
			for i, s := range Apply(old, next, c) {
				switch s {
				case old[i]:
					choice += "o"
				case next[i]:
					choice += "n"
				default:
					t.Fatalf("%v: the sector %d is neither", c, i)
				}
			}
			seen[choice]++
		}
		for _, want := range words(n) {
			if seen[want] != 1 {
				t.Errorf("All(%d): the choice %s comes %d times", n, want, seen[want])
			}
			delete(seen, want)
		}
		if len(seen) > 0 {
			t.Errorf("All(%d): there are others: %v", n, seen)
		}
	}
}

// words are all words of n letters, of o and n.
func words(n int) []string {
	if n == 0 {
		return []string{""}
	}
	var l []string
	for _, w := range words(n - 1) {
		l = append(l, w+"o", w+"n")
	}
	return l
}

// P9.3: behind each of Tears one sector is the new one's beginning with the old one's end, and each other one is the old one or the new one, as All's leaves it.
func TestTornChoices(t *testing.T) {
	for n := range 7 {
		old, next := marks(1, n), marks(101, n)
		for _, cut := range []int{math.MinInt, -1, 0, 1, 20, 63, 64, 65, math.MaxInt} {
			for _, c := range Tears(n, cut) {
				whole := Apply(old, next, api.Crash{Keep: c.Keep, Torn: -1})
				for i, s := range Apply(old, next, c) {
					want := whole[i]
					if i == c.Torn {
						want = torn(old[i], next[i], cut)
					}
					if s != want {
						t.Fatalf("%v: the sector %d is %v, want %v", c, i, s, want)
					}
				}
			}
		}
	}
}

// written is a disk of two files of which just n sectors wait, some in each, behind sectors that don't; beside it the old and the new ones of these n, in the order of the disk.
func written(t *testing.T, n int) (*disk.Disk, []api.Sec, []api.Sec) {
	t.Helper()
	first := n / 2
	old, next := marks(1, n), marks(101, n)
	d, e := disk.Lay(100, []api.File{
		{Name: "b", L: append(old[first:n:n], mark(60))},
		{Name: "a", L: append(marks(50, 1), old[:first]...)},
	})
	if e == api.OK {
		e = d.Write("b", 0, next[first:])
	}
	if e == api.OK {
		e = d.Write("a", 1, next[:first])
	}
	if e != api.OK || d.Waiting() != n {
		t.Fatalf("error %d, %d sectors wait", e, d.Waiting())
	}
	return d, old, next
}

// leaves holds what a crash leaves on a disk of which n sectors wait against what Apply tells.
func leaves(t *testing.T, d *disk.Disk, old, next []api.Sec, c api.Crash) {
	t.Helper()
	d.Crash(c)
	left, first := Apply(old, next, c), len(old)/2
	want := []api.File{
		{Name: "a", L: append(marks(50, 1), left[:first]...)},
		{Name: "b", L: append(left[first:len(old):len(old)], mark(60))},
	}
	if got := d.Files(); !reflect.DeepEqual(got, want) {
		t.Fatalf("%v leaves %v, want %v", c, got, want)
	}
}

// Each of All and of Tears, and those that it is made of, leaves on a disk what Apply tells.
func TestAgainstDisk(t *testing.T) {
	for n := range 9 {
		d, old, next := written(t, n)
		for _, c := range All(n) {
			leaves(t, d.Clone(), old, next, c)
		}
		for _, cut := range []int{math.MinInt, -1, 0, 1, 30, 63, 64, 65, math.MaxInt} {
			for _, c := range Tears(n, cut) {
				leaves(t, d.Clone(), old, next, c)
			}
		}
	}
}

// Any crash of more sectors than All tells leaves on a disk what Apply tells.
func TestAnyAgainstDisk(t *testing.T) {
	for _, n := range []int{9, 17, 40, 70} {
		d, old, next := written(t, n)
		for _, keep := range keeps(n) {
			for _, at := range places(n) {
				for _, cut := range []int{-1, 0, 12, 64, 65} {
					leaves(t, d.Clone(), old, next, api.Crash{Keep: keep, Torn: at, Cut: cut})
				}
			}
		}
	}
}
