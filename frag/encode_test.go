package frag

import (
	"math"
	"slices"
	"testing"

	"strandline/api"
)

// noEncode fails, if Encode answers anything but ErrArg, or any bytes beside it.
func noEncode(t *testing.T, f api.Frag) {
	t.Helper()
	if b, e := Encode(f); len(b) != 0 || e != api.ErrArg {
		t.Errorf("Encode of the Kind %d, the Epoch %d and %d bytes = %d bytes, %d", f.Kind, f.Epoch, len(f.Data), len(b), e)
	}
}

// sameEncode fails, if Encode answers anything else.
func sameEncode(t *testing.T, f api.Frag, want []byte) {
	t.Helper()
	if b, e := Encode(f); !slices.Equal(b, want) || e != api.OK {
		t.Errorf("Encode of %v = %v, %d, not %v", f, b, e, want)
	}
}

// P13.1: the bytes written out, place by place; the masked sum is reckoned apart.
func TestEncode(t *testing.T) {
	for _, c := range []struct {
		f    api.Frag
		want []byte
	}{
		{api.Frag{Kind: 1}, []byte{0, 0, 1, 0, 0, 0, 0}},
		{api.Frag{Kind: 2, Data: []byte{}}, []byte{0, 0, 2, 0, 0, 0, 0}},
		{api.Frag{Kind: 3, Epoch: 1, Data: []byte{0}}, []byte{1, 0, 3, 1, 0, 0, 0, 0}},
		{api.Frag{Kind: 4, Epoch: 255, Data: []byte{0, 127, 128, 255}}, []byte{4, 0, 4, 255, 0, 0, 0, 0, 127, 128, 255}},
		{api.Frag{Kind: 1, Epoch: 256, Data: []byte("a")}, []byte{1, 0, 1, 0, 1, 0, 0, 97}},
		{api.Frag{Kind: 2, Epoch: 1 << 16, Data: []byte("ab")}, []byte{2, 0, 2, 0, 0, 1, 0, 97, 98}},
		{api.Frag{Kind: 3, Epoch: 1 << 31}, []byte{0, 0, 3, 0, 0, 0, 128}},
		{api.Frag{Kind: 4, Epoch: 1<<32 - 1}, []byte{0, 0, 4, 255, 255, 255, 255}},
		{api.Frag{Kind: 1, Epoch: 0x04030201, Data: []byte{9, 8, 7}}, []byte{3, 0, 1, 1, 2, 3, 4, 9, 8, 7}},
		{api.Frag{Kind: 2, Epoch: 7, Data: make([]byte, 197)}, append([]byte{197, 0, 2, 7, 0, 0, 0}, make([]byte, 197)...)},
		{api.Frag{Kind: 3, Epoch: 7, Data: mixed(196)}, append([]byte{196, 0, 3, 7, 0, 0, 0}, mixed(196)...)},
	} {
		want := slices.Concat([]byte{0, 0, 0, 0}, c.want)
		sum := slowSum(c.want)
		for i := range 4 {
			want[i] = byte(sum >> (8 * i))
		}
		sameEncode(t, c.f, want)
	}
}

// P13.1: whole bytes, the sum too, as a program of its own reckoned them.
func TestEncodeOfKnown(t *testing.T) {
	for _, c := range []struct {
		f    api.Frag
		want []byte
	}{
		{api.Frag{Kind: 1}, []byte{54, 241, 5, 174, 0, 0, 1, 0, 0, 0, 0}},
		{api.Frag{Kind: 4, Epoch: 3, Data: []byte("abc")}, []byte{208, 212, 157, 101, 3, 0, 4, 3, 0, 0, 0, 97, 98, 99}},
	} {
		sameEncode(t, c.f, c.want)
		sameDecode(t, "known bytes", c.want, c.f.Epoch, c.f, len(c.want), api.OK)
	}
}

// P13.1: each Kind, with each of the Epochs and of the Datas: a right one has its bytes, of all others ErrArg is told.
func TestEncodeByWords(t *testing.T) {
	right, wrong := 0, 0
	for _, kind := range append(rightKinds(), wrongKinds()...) {
		for _, epoch := range epochs() {
			for _, data := range slices.Concat(rightDatas(), longDatas()[:4]) {
				f := api.Frag{Kind: kind, Epoch: epoch, Data: data}
				if slowRight(f) {
					sameEncode(t, f, slowBytes(f))
					right++
				} else {
					noEncode(t, f)
					wrong++
				}
			}
		}
	}
	if right < 2000 || wrong < 10000 {
		t.Errorf("%d are right, %d are wrong", right, wrong)
	}
}

// P13.1: each length from 0 on, up to the most and beyond it.
func TestEncodeOfEachLength(t *testing.T) {
	for n := range 600 {
		f := api.Frag{Kind: 1 + n%4, Epoch: uint32(n), Data: mixed(n)}
		if n <= 197 {
			sameEncode(t, f, slowBytes(f))
		} else {
			noEncode(t, f)
		}
	}
}

// P13.1: each small Kind.
func TestEncodeOfEachKind(t *testing.T) {
	for kind := -600; kind <= 600; kind++ {
		f := api.Frag{Kind: kind, Epoch: 9, Data: []byte("x")}
		if kind >= 1 && kind <= 4 {
			sameEncode(t, f, slowBytes(f))
		} else {
			noEncode(t, f)
		}
	}
}

// P13.1: of what is no fragment no bytes are told.
func TestEncodeOfWrong(t *testing.T) {
	for _, f := range wrongs() {
		noEncode(t, f)
	}
	for _, f := range []api.Frag{
		{}, {Kind: 0, Epoch: 1, Data: []byte("a")}, {Kind: 5}, {Kind: -1}, {Kind: 257}, {Kind: math.MinInt}, {Kind: math.MaxInt},
		{Kind: 1, Data: make([]byte, 198)}, {Kind: 4, Data: make([]byte, 256)}, {Kind: 2, Data: make([]byte, 65536)}, {Kind: 3, Data: make([]byte, 1<<20)},
		{Kind: 0, Data: make([]byte, 198)}, {Kind: 5, Data: make([]byte, 198)},
	} {
		noEncode(t, f)
	}
}

// P13.1: Encode neither changes nor keeps the Data that it was given, nor the room behind its end; what it answers is apart from it, and from what it answers next.
func TestEncodeIsNew(t *testing.T) {
	for _, f := range append(frags(), wrongs()[:200]...) {
		given := withData(f, roomy(f.Data))
		was := whole(given.Data)
		first, e := Encode(given)
		second, _ := Encode(given)
		if !slices.Equal(whole(given.Data), was) {
			t.Fatalf("Encode of %v changed what was given", f)
		}
		spoil(first)
		if !slices.Equal(whole(given.Data), was) {
			t.Fatalf("Encode of %v shares what was given", f)
		}
		spoil(given.Data)
		if e == api.OK && !slices.Equal(second, slowBytes(f)) {
			t.Fatalf("Encode of %v: the answer became another one, %v", f, second)
		}
	}
}
