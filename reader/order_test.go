package reader

import (
	"slices"
	"strconv"
	"testing"
)

// partsOf are fragments by their Kinds' digits, each with other bytes.
func partsOf(kinds string) []part {
	var l []part
	for i, k := range kinds {
		l = append(l, part{int(k - '0'), mixed(i, i*7%23)})
	}
	return l
}

// placesOf are the places of fragments that are laid by hand, and the one behind the last.
func placesOf(from int, l []part) []int {
	at := []int{from}
	for i, p := range l {
		if i > 0 {
			at[i] = begin(at[i])
		}
		at = append(at, at[i]+head+len(p.data))
	}
	return at
}

// P24.1: fragments in each order, up to six, from several places on: at each fragment's place, as the chapter says.
func TestOrders(t *testing.T) {
	for count, kinds := range []int{1, 4, 16, 64, 256, 1024, 4096} {
		for n := range kinds {
			var l []part
			for i := range count {
				l = append(l, part{1 + n>>(2*i)&3, mixed(n, (n+7*i)%30)})
			}
			epoch := epochOf(n)
			for _, from := range []int{0, 45, 150, 197} {
				secs := byHand(epoch, from, l)
				for _, at := range placesOf(from, l) {
					asRead(t, "any order", epoch, secs, at)
				}
			}
			if count > 0 && n%3 == 0 {
				l[n%count].kind = []int{0, 5, 255, 129}[n%4]
				secs := byHand(epoch, 0, l)
				for _, at := range placesOf(0, l) {
					asRead(t, "with a fragment that is none", epoch, secs, at)
				}
			}
		}
	}
}

// P24.1: orders, written out: of how many fragments the record at the first one's place has come, if one stands there.
func TestOrdersWrittenOut(t *testing.T) {
	for kinds, of := range map[string]int{
		"1": 1, "11": 1, "12": 1, "13": 1, "14": 1, "10": 1, "15": 1, "124": 1,
		"24": 2, "241": 2, "242": 2, "243": 2, "244": 2, "240": 2,
		"234": 3, "2344": 3, "2334": 4, "23334": 5, "233334": 6, "2333341": 6,
		"2": 0, "3": 0, "4": 0, "0": 0, "5": 0,
		"21": 0, "22": 0, "20": 0, "25": 0, "214": 0, "224": 0, "204": 0, "254": 0,
		"23": 0, "231": 0, "232": 0, "230": 0, "235": 0, "2314": 0, "2324": 0, "2304": 0, "2333": 0,
		"31": 0, "32": 0, "34": 0, "324": 0, "334": 0, "41": 0, "42": 0, "424": 0, "44": 0, "01": 0, "51": 0,
	} {
		l := partsOf(kinds)
		for _, from := range []int{0, 5, 45, 60, 100, 208} {
			secs := byHand(6, from, l)
			if of == 0 {
				lacks(t, kinds, 6, secs, from)
				continue
			}
			var rec []byte
			for _, p := range l[:of] {
				rec = append(rec, p.data...)
			}
			stands(t, kinds, 6, secs, from, rec, placesOf(from, l[:of])[of])
		}
	}
}

// P24.1: what stands ahead of a place plays no part, and what stands behind a record neither.
func TestAheadAndBehind(t *testing.T) {
	s := stoneOf(t, 6, anything, 20, 300, 20, 200, 10)
	for i, at := range s.places {
		for p := range all {
			l := changed(s.secs, p, 255)
			if p < at || p >= s.behind[i] {
				stands(t, "the byte at "+strconv.Itoa(p)+" another one", 6, l, at, s.recs[i], s.behind[i])
			}
		}
		for k := range sectors {
			l := with(s.secs, k, stamped(7, k, nil))
			if (k+1)*room <= at || k*room >= s.behind[i] {
				stands(t, "another sector "+strconv.Itoa(k), 6, l, at, s.recs[i], s.behind[i])
			}
		}
	}
}

// P24.1: bytes between a fragment's end and where the next one begins play no part.
func TestBytesBetween(t *testing.T) {
	l := []part{{2, mixed(1, 31)}, {3, mixed(2, 35)}, {4, mixed(3, 5)}}
	at := placesOf(0, l)
	if !slices.Equal(at, []int{0, 52, 104, 120}) {
		t.Fatalf("at %v", at)
	}
	rec := slices.Concat(l[0].data, l[1].data, l[2].data)
	for p := range all {
		for _, bits := range []byte{1, 255} {
			secs := changed(byHand(6, 0, l), p, bits)
			if p >= 42 && p < 52 || p >= 98 && p < 104 || p >= 120 {
				stands(t, "the byte at "+strconv.Itoa(p)+" another one", 6, secs, 0, rec, 120)
			} else {
				lacks(t, "the byte at "+strconv.Itoa(p)+" another one", 6, secs, 0)
			}
		}
	}
}

// P24.1: a head that tells of more bytes than a fragment, or its block, has, or of none of a fragment's Kinds, isn't told, though its sum goes with it.
func TestWrongHeads(t *testing.T) {
	for _, at := range []int{0, 45, 190} {
		for _, count := range []int{0, 1, 7, 8, 40, 177, 178, most, most + 1, 256, 300, 1 << 10, 1<<16 - 1} {
			for kind := range 256 {
				b := summed(slices.Concat(low(uint64(count), 2), []byte{byte(kind)}, low(8, 4), mixed(count, count)))
				body := make([]byte, all)
				copy(body[at:], b)
				l := sealed(8, body, all)
				if kind == 1 && count <= most && at%block+head+count <= block {
					stands(t, "a head", 8, l, at, mixed(count, count), at+head+count)
				} else {
					lacks(t, "a head", 8, l, at)
				}
			}
		}
	}
}

// P24.1: a further fragment whose sum, length, Kind or Epoch is another's: no record stands there.
func TestFurtherFragmentAnother(t *testing.T) {
	first, then := fragment(2, 8, mixed(1, 60)), fragment(4, 8, mixed(2, 30))
	rec := slices.Concat(mixed(1, 60), mixed(2, 30))
	lay := func(then []byte) []byte {
		return slices.Concat(first, then, make([]byte, all-len(first)-len(then)))
	}
	stands(t, "as it was", 8, sealed(8, lay(then), all), 0, rec, 112)
	for i := range len(then) {
		for bits := 1; bits < 256; bits++ {
			another := slices.Clone(then)
			another[i] ^= byte(bits)
			lacks(t, "a changed one", 8, sealed(8, lay(another), all), 0)
		}
	}
	for _, another := range [][]byte{
		fragment(1, 8, mixed(2, 30)), fragment(2, 8, mixed(2, 30)), fragment(3, 8, mixed(2, 30)), fragment(4, 9, mixed(2, 30)),
		append(slices.Clone(then[:4]), fragment(4, 8, mixed(3, 30))[4:]...), append(fragment(4, 8, mixed(3, 30))[:4], then[4:]...), then[:40], nil,
	} {
		lacks(t, "another one", 8, sealed(8, lay(another), all), 0)
	}
	for n := range 90 {
		stands(t, "of another length", 8, sealed(8, lay(fragment(4, 8, mixed(n, n))), all), 0, append(mixed(1, 60), mixed(n, n)...), 82+n)
	}
}
