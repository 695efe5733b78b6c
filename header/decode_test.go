package header

import (
	"testing"

	"strandline/api"
)

// P18.2: an empty sector has no header; one of which a byte alone isn't 0 isn't empty.
func TestDecodeOfEmpty(t *testing.T) {
	noDecode(t, "an empty sector", api.Sec{}, api.ErrNone)
	for at := range sector {
		for x := 1; x < 256; x++ {
			var s api.Sec
			s[at] = byte(x)
			noDecode(t, "one byte alone", s, api.ErrForm)
		}
	}
}

// P18.2: what was encoded is decoded.
func TestDecodeOfEncoded(t *testing.T) {
	for _, h := range rightHeaders() {
		sameDecode(t, "a right header", slowSector(h), h, api.OK)
	}
}

// P18.2: each of the first five bytes changed in each way: with the sum that is right of it, and with the one that was.
func TestDecodeOfOtherMarks(t *testing.T) {
	for _, h := range manyHeaders(40) {
		for at := range 5 {
			for x := 1; x < 256; x++ {
				s := slowSector(h)
				s[at] ^= byte(x)
				noDecode(t, "another first byte", s, api.ErrForm)
				noDecode(t, "another first byte, with the right sum", sealed(s), api.ErrForm)
			}
		}
	}
	for _, mark := range []string{"STRD\x01", "strd\x00", "strd\x02", "strd1", "dr\x74s\x01", "\x00\x00\x00\x00\x00", "\x00\x00\x00\x00\x01", "\x01strd"} {
		s := slowSector(example())
		copy(s[:], mark)
		noDecode(t, "another mark", sealed(s), api.ErrForm)
	}
}

// P18.2: each byte behind the 41st set in each way; the 41st is the sum's.
func TestDecodeOfMoreBehind(t *testing.T) {
	for _, h := range manyHeaders(10) {
		for at := fields; at < sector; at++ {
			for x := 1; x < 256; x++ {
				s := slowSector(h)
				s[at] = byte(x)
				noDecode(t, "a byte behind", s, api.ErrForm)
				s[fields-1] ^= byte(x)
				noDecode(t, "a byte behind, another sum", s, api.ErrForm)
			}
		}
		for x := 1; x < 256; x++ {
			s := slowSector(h)
			s[fields-1] ^= byte(x)
			noDecode(t, "the 41st byte", s, api.ErrSum)
		}
		s := slowSector(h)
		for at := fields; at < sector; at++ {
			s[at] = 255
		}
		noDecode(t, "all bytes behind", s, api.ErrForm)
	}
}

// P18.2: each bit of the sum changed, each byte of it in each way, the sum not masked, its bytes turned round, none.
func TestDecodeOfOtherSums(t *testing.T) {
	for _, h := range append(manyHeaders(40), example(), api.Header{Epoch: 1, Seq: 1, First: 1}) {
		right := slowSector(h)
		for bit := range 32 {
			s := right
			s[before+bit/8] ^= 1 << (bit % 8)
			noDecode(t, "a bit of the sum", s, api.ErrSum)
		}
		for at := before; at < fields; at++ {
			for x := 1; x < 256; x++ {
				s := right
				s[at] ^= byte(x)
				noDecode(t, "a byte of the sum", s, api.ErrSum)
			}
		}
		masked := slowSum(right[:before])
		plain := (masked-0xa282ead8)<<15 | (masked-0xa282ead8)>>17
		for _, sum := range []uint32{plain, ^plain, masked - 0xa282ead8, ^masked, masked + 1, masked - 1, 0, 1<<32 - 1, slowSum(right[5:before]), slowSum(right[:before-1]), slowSum(right[:fields]), slowSum(right[:])} {
			s := right
			s[37], s[38], s[39], s[40] = byte(sum), byte(sum>>8), byte(sum>>16), byte(sum>>24)
			noDecode(t, "another sum", s, api.ErrSum)
		}
		s := right
		s[37], s[38], s[39], s[40] = s[40], s[39], s[38], s[37]
		noDecode(t, "the sum turned round", s, api.ErrSum)
	}
}

// P18.2: numbers that make no right header, with the right sum, each bound by each place apart, written out; and with another sum.
func TestDecodeOfWrongNumbers(t *testing.T) {
	type numbers struct {
		epoch      uint64
		seq, first uint32
		heads      [heads]uint32
	}
	l := []numbers{
		{0, 1, 1, [heads]uint32{}}, {0, mostLSN, mostLSN, [heads]uint32{5, 6, 7, 8}}, {0, 0, 0, [heads]uint32{}},
		{1, 0, 1, [heads]uint32{}}, {1, mostLSN + 1, 1, [heads]uint32{}}, {1, mostLSN + 2, 1, [heads]uint32{}}, {1, 1<<32 - 1, 1, [heads]uint32{}},
		{1, 1, 0, [heads]uint32{}}, {1, 1, mostLSN + 1, [heads]uint32{}}, {1, 1, mostLSN + 2, [heads]uint32{}}, {1, 1, 1<<32 - 1, [heads]uint32{}}, {1, 1, 1<<32 - 1, [heads]uint32{1, 2, 3, 4}},
	}
	for _, first := range []uint32{1, 2, 3, 255, 256, 65536, mostLSN - 1, mostLSN} {
		for _, head := range []uint32{first, first + 1, first + 256, mostLSN, mostLSN + 1, 1<<32 - 1} {
			for place := range heads {
				n := numbers{9, 8, first, [heads]uint32{}}
				n.heads[place] = head
				l = append(l, n)
				n.heads = [heads]uint32{first - 1, first - 1, first - 1, first - 1}
				n.heads[place] = head
				l = append(l, n)
			}
		}
	}
	for _, n := range l {
		s := laid(n.epoch, n.seq, n.first, n.heads)
		noDecode(t, "no right header", s, api.ErrForm)
		s[before] ^= 16
		noDecode(t, "no right header, another sum", s, api.ErrSum)
	}
}

// P18.2: numbers at the bounds in each field, right ones and others, as the chapter's words tell them.
func TestDecodeOfNumbers(t *testing.T) {
	right, wrong := 0, 0
	bounds := []uint32{0, 1, 2, 3, 255, 256, 65535, 65536, 1 << 24, mostLSN - 1, mostLSN, mostLSN + 1, mostLSN + 2, 1<<32 - 2, 1<<32 - 1}
	for _, epoch := range []uint64{0, 1, 1<<32 - 1, 1 << 32, 1 << 56, 1<<64 - 1} {
		for _, seq := range bounds {
			for _, first := range bounds {
				for _, head := range append(bounds, first-2, first-1, first, first+1) {
					for place := range heads + 1 {
						l := [heads]uint32{head, head, head, head}
						if place < heads {
							l = [heads]uint32{}
							l[place] = head
						}
						s := laid(epoch, seq, first, l)
						want, e := slowDecode(s)
						sameDecode(t, "numbers at the bounds", s, want, e)
						if e == api.OK {
							right++
						} else {
							wrong++
						}
					}
				}
			}
		}
	}
	if right < 10000 || wrong < 10000 {
		t.Errorf("just %d are right, %d aren't", right, wrong)
	}
}

// P18.2: sectors that meet more than one error at once: which answer comes first.
func TestDecodeOrder(t *testing.T) {
	for i, h := range manyHeaders(50) {
		for which := range 1 << 4 {
			mark, behind, sum, numbers := which&1 != 0, which&2 != 0, which&4 != 0, which&8 != 0
			s := slowSector(h)
			if numbers {
				// First is 0 then, so that it isn't right, whatever the heads are.
				s[17], s[18], s[19], s[20] = 0, 0, 0, 0
			}
			if mark {
				s[i%5] ^= 1 << (i % 8)
			}
			s = sealed(s)
			if sum {
				s[before+i%4] ^= 1 << (i % 8)
			}
			if behind {
				s[fields+i%23] ^= 1 << (i % 8)
			}
			switch {
			case mark || behind:
				noDecode(t, "other bytes ahead or behind", s, api.ErrForm)
			case sum:
				noDecode(t, "another sum", s, api.ErrSum)
			case numbers:
				noDecode(t, "numbers that aren't right", s, api.ErrForm)
			default:
				sameDecode(t, "no error", s, h, api.OK)
			}
		}
	}
}

// P18.2: the mark alone, with another sum and with the right one, and with all other fields 0 but one.
func TestDecodeOfMarkAlone(t *testing.T) {
	s := api.Sec{115, 116, 114, 100, 1}
	noDecode(t, "the mark alone", s, api.ErrSum)
	noDecode(t, "the mark and its sum", sealed(s), api.ErrForm)
	for at := 5; at < before; at++ {
		for _, x := range []byte{1, 127, 128, 255} {
			one := s
			one[at] = x
			noDecode(t, "the mark and a byte", one, api.ErrSum)
			noDecode(t, "the mark, a byte, and their sum", sealed(one), api.ErrForm)
		}
	}
}

// anySectors are sectors of bytes that look like any: as they are; with the mark; with nothing behind the 41st; with the right sum; with small numbers.
func anySectors(count int) []api.Sec {
	var l []api.Sec
	numbers := scatter(count * 8)
	for i := range count {
		var s api.Sec
		for k, n := range numbers[8*i : 8*i+8] {
			for at := range 8 {
				s[8*k+at] = byte(n >> (8 * at))
			}
		}
		l = append(l, s)
		copy(s[:], "strd\x01")
		l = append(l, s)
		clear(s[fields:])
		l = append(l, s, sealed(s))
		// What is above 2^31 - 1 goes, then what is above 16 bits, but a head's.
		s[16], s[20], s[24], s[28], s[32], s[36] = s[16]&127, s[20]&127, s[24]&127, s[28]&63, s[32]&31, s[36]&15
		l = append(l, s, sealed(s))
		s[24], s[28], s[32], s[36] = 0, 0, 0, 0
		l = append(l, s, sealed(s))
	}
	return l
}

// P18.2: any bytes, as the chapter's words tell them.
func TestDecodeOfAny(t *testing.T) {
	var seen [api.ErrArg + 1]int
	for _, s := range anySectors(20000) {
		want, e := slowDecode(s)
		sameDecode(t, "any bytes", s, want, e)
		seen[e]++
	}
	for _, e := range []api.Errno{api.OK, api.ErrForm, api.ErrSum} {
		if seen[e] < 10000 {
			t.Errorf("just %d sectors end with %d", seen[e], e)
		}
	}
}
