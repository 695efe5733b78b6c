package tear

import (
	"math/bits"
	"slices"
	"testing"

	"strandline/api"
)

// put are the sectors of a segment, all that have a byte of it stamped, with bytes at that place that are others, as far as the body goes.
func (s segment) put(at int, b []byte) []api.Sec {
	body := slices.Clone(s.body)
	copy(body[at:], b)
	return sealed(s.epoch, body, max(s.end(), min(at+len(b), all)))
}

// left is how many bytes there are from a place up to its block's end.
func left(at int) int {
	return block - at%block
}

// other is a right fragment's Kind and its Data.
type other struct {
	kind int
	data []byte
}

// othersAt are right fragments that are not the intended one: of other Data, of another kind, shorter, longer, of none, up to the block's end; all of them end in the block.
func othersAt(m meant) []other {
	n := len(m.data)
	var l []other
	for kind := 1; kind <= 4; kind++ {
		for _, count := range []int{0, 1, 5, n / 2, n - 1, n, n + 1, n + 2, left(m.at) - head - 1, left(m.at) - head} {
			if count < 0 || count > left(m.at)-head {
				continue
			}
			l = append(l, other{kind, mixed(count+kind, count)}, other{kind, make([]byte, count)}, other{kind, slices.Repeat([]byte{255}, count)})
			if count <= n {
				l = append(l, other{kind, m.data[:count]})
			} else {
				l = append(l, other{kind, append(slices.Clone(m.data), make([]byte, count-n)...)})
			}
		}
		for _, k := range []int{0, n / 2, n - 1} {
			if n > 0 {
				data := slices.Clone(m.data)
				data[k] ^= 1 << (k % 8)
				l = append(l, other{kind, data})
			}
		}
	}
	return slices.DeleteFunc(l, func(o other) bool { return o.kind == m.kind && slices.Equal(o.data, m.data) })
}

// telling are the segments in which other fragments are put.
func telling(t *testing.T) []segment {
	t.Helper()
	var l []segment
	for i, lengths := range append(lists(), anyLists(10)...) {
		l = append(l, segmentOf(t, epochOf(i+5), []look{anything, zero, full}[i%3], lengths...))
	}
	return l
}

// P20.1: another right fragment at the place of each one that is meant: it alone clashes; what it lies upon isn't told.
func TestOtherFragment(t *testing.T) {
	for _, s := range telling(t) {
		for i, m := range s.meant {
			// Of many fragments the first, the last, and some between.
			if i > 2 && i < len(s.meant)-2 && i%9 > 0 {
				continue
			}
			for _, o := range othersAt(m) {
				s.clash(t, "another one", s.put(m.at, fragment(o.kind, s.epoch, o.data)), m.at)
			}
		}
	}
}

// P20.1: the intended one where it is meant is none that clashes, whatever stands behind it.
func TestIntendedStays(t *testing.T) {
	for i, s := range telling(t) {
		for _, m := range s.meant {
			behind := slices.Concat(m.bytes, mixed(i, left(m.at)))[:left(m.at)]
			l := s.put(m.at, behind)
			if asRead(t, s.what(), s.epoch, s.recs, l) != nil {
				t.Fatalf("%s: behind the one at %d any bytes clash", s.what(), m.at)
			}
		}
	}
}

// P20.1: one of other Data by another epoch isn't told, though its sectors are stamped; one whose epoch is another above its lowest 32 bits is.
func TestOtherFragmentsEpoch(t *testing.T) {
	for i, s := range telling(t) {
		for _, m := range s.meant[:min(len(s.meant), 2)] {
			for k, o := range othersAt(m) {
				if (k+i)%3 > 0 {
					continue
				}
				for _, turn := range []uint64{1, 1 << 15, 1 << 31} {
					s.clash(t, "another one of another epoch", s.put(m.at, fragment(o.kind, s.epoch^turn, o.data)))
				}
				s.clash(t, "another one of the same lowest 32 bits", s.put(m.at, fragment(o.kind, s.epoch^5<<32, o.data)), m.at)
			}
		}
	}
}

// P20.1: a fragment of no kind, and one whose sum is another one, isn't told.
func TestWrongFragment(t *testing.T) {
	for i, s := range telling(t) {
		for _, m := range s.meant[:min(len(s.meant), 2)] {
			for k, o := range othersAt(m) {
				if (k+i)%3 > 0 {
					continue
				}
				for _, kind := range []int{0, 5, 255} {
					s.clash(t, "one of no kind", s.put(m.at, fragment(kind, s.epoch, o.data)))
				}
				b := fragment(o.kind, s.epoch, o.data)
				b[len(o.data)%4] ^= 1 << (len(o.data) % 8)
				s.clash(t, "one of another sum", s.put(m.at, b))
			}
		}
	}
}

// P20.1: what would end behind its block's end, or has more bytes than any fragment, isn't told.
func TestBeyondBlock(t *testing.T) {
	for _, s := range telling(t) {
		for _, m := range s.meant {
			for _, n := range []int{left(m.at) - head + 1, left(m.at) - head + 2, left(m.at), most, most + 1, block, 300} {
				if n <= left(m.at)-head {
					continue
				}
				l := s.put(m.at, fragment(m.kind, s.epoch, mixed(n, n)))
				s.clash(t, "one beyond its block", l)
				l = s.put(m.at, fragment(m.kind, s.epoch, make([]byte, n)))
				s.clash(t, "one of bytes 0 beyond its block", l)
			}
		}
	}
}

// P20.1: one of whose sectors one isn't stamped isn't told, though its sum goes with the bytes 0 that stand for that one's.
func TestOtherFragmentUnstamped(t *testing.T) {
	for k, s := range telling(t) {
		for _, m := range s.meant {
			for _, n := range []int{0, 10, 60, 100, left(m.at) - head} {
				data := make([]byte, min(n, left(m.at)-head))
				if k%2 == 0 {
					data = mixed(n, len(data))
				}
				// Not the one that is meant.
				kind := 1 + m.kind%4
				l := s.put(m.at, fragment(kind, s.epoch, data))
				s.clash(t, "another one", l, m.at)
				for i := m.at / room; room*i < m.at+head+len(data); i++ {
					for _, c := range []api.Sec{{}, stamped(s.epoch+1, i, l[i][ahead:]), stamped(s.epoch^1<<40, i, l[i][ahead:]), stamped(s.epoch, i+1, l[i][ahead:])} {
						// By the epoch 0 an empty first sector is stamped; but then the head is gone.
						s.clash(t, "another one, a sector of it not stamped", with(l, i, c))
					}
					if room*i > m.at && m.at/room == i-1 {
						s.clash(t, "another one, all behind it missing", l[:i])
					}
				}
			}
		}
	}
}

// shortOther is a right fragment of no Data that isn't the intended one.
func shortOther(m meant, epoch uint64, k int) []byte {
	kinds := slices.DeleteFunc([]int{1, 2, 3, 4}, func(kind int) bool { return kind == m.kind })
	return fragment(kinds[k%3], epoch, nil)
}

// P20.1: others at several places: all of them clash, and are told rising.
func TestSeveralOthers(t *testing.T) {
	for k, s := range telling(t) {
		n := len(s.meant)
		choices := []uint64{0, 1<<n - 1, 1 << n >> 1, 1, 0x5555555555555555, 0xaaaaaaaaaaaaaaaa, 1<<n>>1 | 1}
		for i := range 20 {
			b := mixed(i+k, 8)
			choices = append(choices, uint64(b[0])|uint64(b[1])<<8|uint64(b[2])<<20|uint64(b[3])<<30|uint64(b[4])<<50)
		}
		if n <= 6 {
			for c := range uint64(1 << n) {
				choices = append(choices, c)
			}
		}
		for _, c := range choices {
			body := slices.Clone(s.body)
			var want []int
			for i, m := range s.meant {
				if c>>i&1 == 1 {
					copy(body[m.at:], shortOther(m, s.epoch, k+i))
					want = append(want, m.at)
				}
			}
			if len(want) != bits.OnesCount64(c&(1<<n-1)) && n < 64 {
				t.Fatalf("%s: %d of %b", s.what(), len(want), c)
			}
			s.clash(t, "several others", sealed(s.epoch, body, s.end()), want...)
		}
	}
}

// P20.1: another right fragment at a place that is no intended one's is no clash: in the Data of one that is meant, behind the last one, and one byte beside one.
func TestElsewhere(t *testing.T) {
	for i, s := range telling(t) {
		places := s.places()
		for at := i % 2; at <= all-head; at += 2 {
			if slices.Contains(places, at) {
				continue
			}
			for _, b := range [][]byte{fragment(1, s.epoch, nil), fragment(4, s.epoch, mixed(at, min(at%30, left(at))))} {
				// Of a meant one that it lies upon nothing is told.
				s.clash(t, "one elsewhere", s.put(at, b))
			}
		}
	}
}

// P20.1: sectors that were laid of other records: fewer, more, shorter, longer, in another order, of other bytes.
func TestOtherRecords(t *testing.T) {
	clashed := 0
	for i, s := range segments(t) {
		for _, other := range recordsBeside(s, i) {
			if _, _, ok := meantOf(s.epoch, other); !ok {
				continue
			}
			o := lay(t, s.epoch, other)
			clashed += len(asRead(t, s.what()+", laid of the lengths "+o.what(), s.epoch, s.recs, o.secs))
			clashed += len(asRead(t, o.what()+", laid of the lengths "+s.what(), s.epoch, other, s.secs))
		}
	}
	if clashed < 3000 {
		t.Errorf("but %d places clash", clashed)
	}
}

// recordsBeside are lists of records that are near a segment's.
func recordsBeside(s segment, which int) [][][]byte {
	n := len(s.recs)
	backwards := slices.Clone(s.recs)
	slices.Reverse(backwards)
	l := [][][]byte{nil, othersOf(s), backwards, append([][]byte{{1, 2}}, s.recs...), append(slices.Clone(s.recs), []byte{1, 2}), append([][]byte{nil}, s.recs...)}
	for i := range min(n, 4) {
		k := (i*7 + which) % n
		var shorter, longer, swapped, without, none = slices.Clone(s.recs), slices.Clone(s.recs), slices.Clone(s.recs), slices.Delete(slices.Clone(s.recs), k, k+1), slices.Clone(s.recs)
		shorter[k] = s.recs[k][:max(len(s.recs[k])-1, 0)]
		longer[k] = append(slices.Clone(s.recs[k]), 0)
		swapped[k], swapped[(k+1)%n] = swapped[(k+1)%n], swapped[k]
		none[k] = nil
		l = append(l, shorter, longer, swapped, without, none, s.recs[:k], s.recs[k:])
	}
	return l
}
