package frag

import (
	"math"
	"slices"
	"testing"

	"strandline/api"
)

// P13.2: fewer bytes than a head has, whatever they are, and whatever epoch is asked for.
func TestDecodeOfShortHead(t *testing.T) {
	noDecode(t, "nil", nil, 0, api.ErrShort)
	noDecode(t, "none", []byte{}, 1, api.ErrShort)
	noDecode(t, "none, others in the room", knownBytes()[:0], 7, api.ErrShort)
	for n := range 11 {
		for _, epoch := range []uint32{0, 1, 7, math.MaxUint32} {
			noDecode(t, "bytes 0", make([]byte, n), epoch, api.ErrShort)
			noDecode(t, "bytes 0, others in the room", roomy(make([]byte, n)), epoch, api.ErrShort)
			noDecode(t, "bytes 255", slices.Repeat([]byte{255}, n), epoch, api.ErrShort)
			noDecode(t, "a fragment's beginning", knownBytes()[:n:n], epoch, api.ErrShort)
			noDecode(t, "a fragment's beginning, the others in the room", knownBytes()[:n], epoch, api.ErrShort)
		}
	}
}

// knownBytes are a fragment's of the epoch 7.
func knownBytes() []byte {
	return laid(3, 2, 7, []byte("xyz"))
}

// P13.2: a head of bytes 0, whatever stands behind it, whatever epoch is asked for.
func TestDecodeOfEmptyHead(t *testing.T) {
	for _, epoch := range epochs() {
		for _, behind := range [][]byte{nil, {0}, make([]byte, 41), make([]byte, 300), {1}, {255, 255}, mixed(200), knownBytes(), laid(0, 1, 0, nil)} {
			noDecode(t, "a head of bytes 0", append(make([]byte, 11), behind...), epoch, api.ErrNone)
			noDecode(t, "a head of bytes 0, others in the room", roomy(append(make([]byte, 11), behind...)), epoch, api.ErrNone)
		}
	}
}

// P13.2: a head of which one byte alone isn't 0 isn't none: it has no Kind, or another sum.
func TestDecodeOfOneByte(t *testing.T) {
	for at := range 11 {
		for x := 1; x < 256; x++ {
			b := make([]byte, 11)
			b[at] = byte(x)
			want := api.ErrForm
			if at == 6 && x <= 4 {
				want = api.ErrSum
			}
			noDecode(t, "one byte", b, 0, want)
			noDecode(t, "one byte, and others behind", append(b, mixed(200)...), 0, want)
			noDecode(t, "one byte, another epoch", b, 77, api.ErrForm)
		}
	}
}

// P13.2: each Kind's byte, with the sum that is right of it, with another one, and with too few bytes.
func TestDecodeOfEachKind(t *testing.T) {
	for kind := range 256 {
		for _, data := range [][]byte{nil, []byte("a"), mixed(197)} {
			n := len(data)
			b := laid(uint16(n), byte(kind), 9, data)
			if kind < 1 || kind > 4 {
				noDecode(t, "no Kind", b, 9, api.ErrForm)
				noDecode(t, "no Kind, a head alone", b[:11], 9, api.ErrForm)
				b[0] ^= 1
				noDecode(t, "no Kind, another sum", b, 9, api.ErrForm)
				continue
			}
			sameDecode(t, "a Kind", b, 9, api.Frag{Kind: kind, Epoch: 9, Data: data}, 11+n, api.OK)
			if n > 0 {
				noDecode(t, "too few bytes", b[:10+n], 9, api.ErrShort)
			}
			b[0] ^= 1
			noDecode(t, "another sum", b, 9, api.ErrSum)
			noDecode(t, "another epoch", b, 8, api.ErrForm)
		}
	}
}

// P13.2: each count of bytes at the bounds, with as many bytes behind the head, one fewer, one more, none, with the right sum and with another one.
func TestDecodeOfCounts(t *testing.T) {
	counts := []int{0, 1, 2, 127, 128, 195, 196, 197, 198, 199, 208, 254, 255, 256, 257, 256 + 197, 512, 1 << 14, 1 << 15, 65534, 65535}
	for _, n := range counts {
		data := mixed(n)
		b := laid(uint16(n), 3, 1<<20, data)
		behind := append(slices.Clone(b), 1)
		other := slices.Clone(b)
		other[3] ^= 128
		if n > 197 {
			noDecode(t, "too many", b, 1<<20, api.ErrForm)
			noDecode(t, "too many, one fewer", b[:10+n], 1<<20, api.ErrForm)
			noDecode(t, "too many, a head alone", b[:11], 1<<20, api.ErrForm)
			noDecode(t, "too many, with more", behind, 1<<20, api.ErrForm)
			noDecode(t, "too many, another sum", other, 1<<20, api.ErrForm)
			continue
		}
		want := api.Frag{Kind: 3, Epoch: 1 << 20, Data: data}
		sameDecode(t, "as many", b, 1<<20, want, 11+n, api.OK)
		sameDecode(t, "one more", behind, 1<<20, want, 11+n, api.OK)
		noDecode(t, "another sum", other, 1<<20, api.ErrSum)
		if n > 0 {
			noDecode(t, "one fewer", b[:10+n], 1<<20, api.ErrShort)
			noDecode(t, "one fewer, the last one in the room", b[:10+n:11+n], 1<<20, api.ErrShort)
			noDecode(t, "a head alone", b[:11], 1<<20, api.ErrShort)
			noDecode(t, "one fewer, another sum", other[:10+n], 1<<20, api.ErrShort)
		}
	}
}

// P13.2: each count from 0 on, with the bytes of one of them behind the head: its sum is not the right one of another.
func TestDecodeOfEachCount(t *testing.T) {
	b := laid(50, 1, 5, mixed(50))
	for n := range 1 << 16 {
		other := slices.Clone(b)
		other[4], other[5] = byte(n), byte(n>>8)
		switch {
		case n > 197:
			noDecode(t, "too many", other, 5, api.ErrForm)
		case n > 50:
			noDecode(t, "more than there are", other, 5, api.ErrShort)
		case n < 50:
			noDecode(t, "fewer", other, 5, api.ErrSum)
		default:
			sameDecode(t, "as many", other, 5, api.Frag{Kind: 1, Epoch: 5, Data: mixed(50)}, 61, api.OK)
		}
	}
}

// P13.2: each epoch, asked for by its own, by one above, one below, 0, 2^32 - 1, and by each with one bit turned.
func TestDecodeOfOtherEpochs(t *testing.T) {
	for _, own := range epochs() {
		f := api.Frag{Kind: 2, Epoch: own, Data: []byte("ab")}
		b := slowBytes(f)
		sameDecode(t, "its own epoch", b, own, f, 13, api.OK)
		asked := append(epochs(), own+1, own-1, own<<8, own>>8, ^own)
		for bit := range 32 {
			asked = append(asked, own^1<<bit)
		}
		for _, epoch := range asked {
			if epoch != own {
				noDecode(t, "another epoch", b, epoch, api.ErrForm)
			}
		}
	}
}

// P13.2: each byte of Epoch another one: by its own epoch it isn't decoded, by the other one its sum is wrong, or right if it was laid so.
func TestDecodeOfOtherEpochBytes(t *testing.T) {
	for _, own := range []uint32{0, 1, 7, 255, 256, 1 << 31, math.MaxUint32} {
		b := laid(1, 4, own, []byte{128})
		for at := 7; at < 11; at++ {
			for x := 1; x < 256; x++ {
				changed := slices.Clone(b)
				changed[at] ^= byte(x)
				other := own ^ uint32(x)<<(8*(at-7))
				noDecode(t, "by its own", changed, own, api.ErrForm)
				noDecode(t, "by the other one", changed, other, api.ErrSum)
				sameDecode(t, "laid so", sealed(changed), other, api.Frag{Kind: 4, Epoch: other, Data: []byte{128}}, 12, api.OK)
				noDecode(t, "laid so, by the first one", sealed(changed), own, api.ErrForm)
			}
		}
	}
}

// P13.2: each beginning of a fragment's bytes is too short, with the others in the room and without; behind the head another epoch is told first.
func TestDecodeOfCuts(t *testing.T) {
	for _, f := range frags() {
		b := slowBytes(f)
		for n := range len(b) {
			noDecode(t, "a beginning", b[:n:n], f.Epoch, api.ErrShort)
			noDecode(t, "a beginning, the others in the room", b[:n], f.Epoch, api.ErrShort)
			want := api.ErrForm
			if n < 11 {
				want = api.ErrShort
			}
			noDecode(t, "a beginning, another epoch", b[:n], f.Epoch+1, want)
		}
		if t.Failed() {
			t.Fatalf("of %v", f)
		}
	}
}

// P13.2: a fragment with nothing, something, and another fragment behind it.
func TestDecodeOfMore(t *testing.T) {
	last := api.Frag{Kind: 1, Epoch: 3, Data: []byte("last")}
	for _, f := range frags() {
		b := slowBytes(f)
		for _, behind := range [][]byte{nil, {0}, {255}, make([]byte, 11), mixed(300), slowBytes(last), slowBytes(f), slowBytes(f)[:11]} {
			sameDecode(t, "with more", slices.Concat(b, behind), f.Epoch, f, len(b), api.OK)
		}
		sameDecode(t, "others in the room", roomy(b), f.Epoch, f, len(b), api.OK)
		both := slices.Concat(b, slowBytes(last))
		_, n, _ := Decode(both, f.Epoch)
		sameDecode(t, "what stands behind it", both[n:], 3, last, 15, api.OK)
		if t.Failed() {
			t.Fatalf("of %v", f)
		}
	}
}

// P13.2: each bit of the sum, of Kind, of Epoch and of Data turned: written out what is told then.
func TestDecodeOfTurnedBits(t *testing.T) {
	for i, f := range append(frags(), withData(api.Frag{Kind: 4, Epoch: 3}, mixed(197))) {
		b := slowBytes(f)
		if i%3 != 0 && len(f.Data) > 8 {
			continue
		}
		for at := range len(b) {
			for bit := range 8 {
				if at == 4 || at == 5 {
					continue
				}
				changed := slices.Clone(b)
				changed[at] ^= 1 << bit
				want := api.ErrSum
				if at == 6 && (changed[6] < 1 || changed[6] > 4) || at > 6 && at < 11 {
					want = api.ErrForm
				}
				noDecode(t, "one bit turned", changed, f.Epoch, want)
				noDecode(t, "one bit turned, with more", append(changed, mixed(20)...), f.Epoch, want)
			}
		}
		if t.Failed() {
			t.Fatalf("of %v", f)
		}
	}
}

// P13.2: where two or more errors could be answered, the one that is named first is.
func TestDecodeInOrder(t *testing.T) {
	none, short := make([]byte, 11), make([]byte, 10)
	noDecode(t, "short, and all 0", short, 5, api.ErrShort)
	noDecode(t, "none, and no Kind", none, 0, api.ErrNone)
	noDecode(t, "none, and another epoch", none, 5, api.ErrNone)
	noDecode(t, "no Kind, and short", []byte{0, 0, 0, 0, 1, 0, 0, 5, 0, 0, 0}, 5, api.ErrForm)
	noDecode(t, "no Kind, and another sum", []byte{0, 0, 0, 0, 0, 0, 5, 5, 0, 0, 0}, 5, api.ErrForm)
	noDecode(t, "too many, and short", []byte{0, 0, 0, 0, 198, 0, 1, 5, 0, 0, 0}, 5, api.ErrForm)
	noDecode(t, "too many, and another sum", append([]byte{0, 0, 0, 0, 198, 0, 1, 5, 0, 0, 0}, mixed(198)...), 5, api.ErrForm)
	noDecode(t, "far too many, and short", []byte{0, 0, 0, 0, 0, 1, 1, 5, 0, 0, 0, 1}, 5, api.ErrForm)
	noDecode(t, "another epoch, and short", []byte{0, 0, 0, 0, 1, 0, 1, 5, 0, 0, 0}, 6, api.ErrForm)
	noDecode(t, "another epoch, and another sum", []byte{0, 0, 0, 0, 0, 0, 1, 5, 0, 0, 0}, 6, api.ErrForm)
	noDecode(t, "all that is told by the form", []byte{0, 0, 0, 0, 255, 255, 9, 5, 0, 0, 0}, 6, api.ErrForm)
	noDecode(t, "short, and another sum", []byte{0, 0, 0, 0, 1, 0, 1, 5, 0, 0, 0}, 5, api.ErrShort)
	noDecode(t, "another sum", []byte{0, 0, 0, 0, 0, 0, 1, 5, 0, 0, 0}, 5, api.ErrSum)
	sameDecode(t, "nothing wrong", laid(0, 1, 5, nil), 5, api.Frag{Kind: 1, Epoch: 5}, 11, api.OK)
}

// P13.2: Decode tells of any bytes, by any epoch, what the chapter's words, gone through one by one, tell, and changes them not.
func TestDecodeByWords(t *testing.T) {
	seen := map[api.Errno]int{}
	for i, b := range texts() {
		was := whole(b)
		asked := []uint32{0, 1, epochs()[i%len(epochs())]}
		if len(b) >= headSize {
			asked = append(asked, uint32(b[7])|uint32(b[8])<<8|uint32(b[9])<<16|uint32(b[10])<<24)
		}
		for _, epoch := range asked {
			f, n, e := slowDecode(b, epoch)
			sameDecode(t, "any bytes", b, epoch, f, n, e)
			seen[e]++
		}
		if t.Failed() || !slices.Equal(whole(b), was) {
			t.Fatalf("the bytes are %v, they were %v", b, was)
		}
	}
	for _, e := range []api.Errno{api.OK, api.ErrShort, api.ErrNone, api.ErrForm, api.ErrSum} {
		if seen[e] < 500 {
			t.Errorf("just %d texts answer %d", seen[e], e)
		}
	}
}

// texts are bytes of all kinds: heads of few telling ones, and fragments' bytes, with one changed, cut off or added, with the sum as it was and with the right one.
func texts() [][]byte {
	l := [][]byte{nil, {}, {0}, make([]byte, 10), make([]byte, 11), make([]byte, 500)}
	for i, n := range scatter(20000) {
		b := make([]byte, 11, 40)
		for at := range 11 {
			b[at] = []byte{0, 1, 2, 4}[n>>(2*at)%4] & byte(n>>(22+at)%2*255)
		}
		b = append(b, mixed(int(n>>40%8))...)
		l = append(l, b, sealed(b), append(make([]byte, 11), b[:i%12]...))
	}
	for i, f := range manyFrags(3000) {
		b := slowBytes(f)
		l = append(l, b, append(slices.Clone(b), byte(i)), b[:len(b)-1])
		for k := range 6 {
			changed := slices.Clone(b)
			changed[(i*31+k*5)%min(len(b), 14)] = byte(i*7 + k)
			l = append(l, changed, sealed(changed))
		}
	}
	return l
}

// P13.2: what Decode answers stays as it is, whatever becomes of the bytes, and the other way round.
func TestDecodeIsNew(t *testing.T) {
	for _, want := range frags() {
		b := roomy(slowBytes(want))
		was := whole(b)
		first, _, _ := Decode(b, want.Epoch)
		second, _, _ := Decode(b, want.Epoch)
		spoil(first.Data)
		if !slices.Equal(whole(b), was) {
			t.Fatalf("Decode of %v changed or shares what was given", want)
		}
		spoil(b)
		if !slowSame(second, want) {
			t.Fatalf("Decode of %v: the answer became another one", want)
		}
	}
}
