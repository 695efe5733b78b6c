package record

import (
	"math"
	"slices"
	"testing"

	"strandline/api"
)

// P11.1: Encode at the bounds, with the bytes written out.
func TestEncode(t *testing.T) {
	data := []byte{0, 127, 128, 255}
	for _, c := range []struct {
		r    api.Rec
		want []byte
	}{
		{api.Rec{Kind: 1, LSN: 1}, []byte{1, 0, 1, 1}},
		{api.Rec{Kind: 9, Chain: 3, LSN: 1}, []byte{9, 3, 1, 1}},
		{api.Rec{Kind: 2, Chain: 1, LSN: 127, Prev: 126}, []byte{2, 1, 127, 1}},
		{api.Rec{Kind: 2, Chain: 1, LSN: 127}, []byte{2, 1, 127, 127}},
		{api.Rec{Kind: 3, Chain: 2, LSN: 128, Prev: 127}, []byte{3, 2, 128, 1, 1}},
		{api.Rec{Kind: 3, Chain: 2, LSN: 128, Prev: 1}, []byte{3, 2, 128, 1, 127}},
		{api.Rec{Kind: 3, Chain: 2, LSN: 128}, []byte{3, 2, 128, 1, 128, 1}},
		{api.Rec{Kind: 4, LSN: 16383, Prev: 16382}, []byte{4, 0, 255, 127, 1}},
		{api.Rec{Kind: 4, LSN: 16383}, []byte{4, 0, 255, 127, 255, 127}},
		{api.Rec{Kind: 5, LSN: 16384, Prev: 16256}, []byte{5, 0, 128, 128, 1, 128, 1}},
		{api.Rec{Kind: 5, LSN: 16384}, []byte{5, 0, 128, 128, 1, 128, 128, 1}},
		{api.Rec{Kind: 6, LSN: 1 << 21}, []byte{6, 0, 128, 128, 128, 1, 128, 128, 128, 1}},
		{api.Rec{Kind: 7, LSN: 1 << 28, Prev: 1}, []byte{7, 0, 128, 128, 128, 128, 1, 255, 255, 255, 127}},
		{api.Rec{Kind: 8, LSN: mostLSN, Prev: 2}, []byte{8, 0, 255, 255, 255, 255, 7, 253, 255, 255, 255, 7}},
	} {
		for _, d := range [][]byte{nil, {}, {0}, data, []byte(mixed(400))} {
			r := withData(c.r, d)
			if b, e := Encode(r); !slices.Equal(b, slices.Concat(c.want, d)) || e != api.OK {
				t.Errorf("Encode of %v = %v, %d", r, b, e)
			}
			if n := Size(r); n != len(c.want)+len(d) {
				t.Errorf("Size of %v = %d", r, n)
			}
		}
	}
}

// P11.1: Encode and Size tell of each right record what the chapter's words tell: with no Data, with some, with just as many that it has MaxRecord bytes, with more.
func TestEncodeByWords(t *testing.T) {
	seen := map[api.Errno]int{}
	for _, r := range heads() {
		room := most - len(slowBytes(r))
		for _, data := range datas(room) {
			long := withData(r, data)
			want, wantE := slowEncode(long)
			if b, e := Encode(long); !slices.Equal(b, want) || e != wantE {
				t.Fatalf("Encode of %v with %d bytes, of which %d have room = %d bytes, %d", r, len(data), room, len(b), e)
			}
			if n := Size(long); n != len(slowBytes(long)) {
				t.Fatalf("Size of %v with %d bytes = %d", r, len(data), n)
			}
			seen[wantE]++
		}
	}
	if seen[api.OK] < 3000 || seen[api.ErrLong] < 1000 {
		t.Errorf("%d records have bytes, %d are too long", seen[api.OK], seen[api.ErrLong])
	}
}

// P11.1: just as many bytes as may be, one more and far more: Size counts them, whatever Encode answers.
func TestEncodeOfLong(t *testing.T) {
	for _, c := range []struct {
		r     api.Rec
		ahead int
	}{
		{api.Rec{Kind: 1, LSN: 1}, 4},
		{api.Rec{Kind: 1, LSN: 128, Prev: 127}, 5},
		{api.Rec{Kind: 1, LSN: 128}, 6},
		{api.Rec{Kind: 1, LSN: mostLSN, Prev: mostLSN - 1}, 8},
		{api.Rec{Kind: 1, LSN: mostLSN}, 12},
	} {
		for _, n := range []int{0, 1, 499, 500, 501, 503, 504, 505, 506, 507, 508, 509, 511, 512, 513, 1024, 1 << 16, 1 << 20} {
			r := withData(c.r, make([]byte, n))
			if Size(r) != c.ahead+n || !Right(r) {
				t.Errorf("%v with %d bytes: Size %d, Right %t", c.r, n, Size(r), Right(r))
			}
			b, e := Encode(r)
			if c.ahead+n > 512 {
				if len(b) != 0 || e != api.ErrLong {
					t.Errorf("Encode of %v with %d bytes = %d bytes, %d", c.r, n, len(b), e)
				}
			} else if len(b) != c.ahead+n || e != api.OK {
				t.Errorf("Encode of %v with %d bytes = %d bytes, %d", c.r, n, len(b), e)
			}
		}
	}
}

// P11.1: of what isn't right Encode tells ErrArg, also where it would be too long, and Size 0.
func TestEncodeOfWrong(t *testing.T) {
	all := datas(most)
	for i, r := range wrongs() {
		if Right(r) || slowRight(r) {
			t.Fatalf("%v is right", r)
		}
		for _, data := range all {
			if b, e := Encode(withData(r, data)); len(b) != 0 || e != api.ErrArg {
				t.Fatalf("the wrong one %d: Encode of %v with %d bytes = %v, %d", i, r, len(data), b, e)
			}
			if n := Size(withData(r, data)); n != 0 {
				t.Fatalf("the wrong one %d: Size of %v with %d bytes = %d", i, r, len(data), n)
			}
		}
	}
}

// P11.1: ErrArg goes ahead of ErrLong, written out.
func TestEncodeOfWrongAndLong(t *testing.T) {
	for _, n := range []int{0, 1, 400, 508, 509, 513, 1 << 16} {
		for _, r := range []api.Rec{
			{Kind: 0, LSN: 1}, {Kind: 10, LSN: 1}, {Kind: math.MinInt, LSN: 1}, {Kind: math.MaxInt, LSN: 1},
			{Kind: 1, Chain: -1, LSN: 1}, {Kind: 1, Chain: 4, LSN: 1}, {Kind: 1, Chain: math.MinInt, LSN: 1}, {Kind: 1, Chain: math.MaxInt, LSN: 1},
			{Kind: 1, LSN: 0}, {Kind: 1, LSN: 0, Prev: -1}, {Kind: 1, LSN: 1 << 31}, {Kind: 1, LSN: math.MinInt, Prev: math.MaxInt}, {Kind: 1, LSN: math.MaxInt, Prev: math.MaxInt - 1},
			{Kind: 1, LSN: 1, Prev: -1}, {Kind: 1, LSN: 1, Prev: 1}, {Kind: 1, LSN: 1, Prev: math.MinInt}, {Kind: 1, LSN: 1, Prev: math.MaxInt},
		} {
			if b, e := Encode(withData(r, make([]byte, n))); len(b) != 0 || e != api.ErrArg || Size(withData(r, make([]byte, n))) != 0 {
				t.Errorf("Encode of %v with %d bytes = %v, %d", r, n, b, e)
			}
		}
	}
}

// P11.1: Encode neither changes nor keeps the Data that it was given, nor the room behind its end; nor do Size, Right and Same.
func TestEncodeIsNew(t *testing.T) {
	l := append(manyRecs(50), withData(api.Rec{Kind: 1, LSN: 1}, []byte(mixed(508))), api.Rec{Kind: 1, LSN: 0, Data: []byte("wrong")}, withData(api.Rec{Kind: 1, LSN: 1}, []byte(mixed(509))))
	for _, r := range l {
		want, _ := slowEncode(r)
		given := withData(r, roomy(r.Data))
		whole := slices.Clone(given.Data[:cap(given.Data)])
		first, _ := Encode(given)
		second, _ := Encode(given)
		Size(given)
		Right(given)
		Same(given, r)
		if !slices.Equal(first, want) || !slices.Equal(second, want) {
			t.Fatalf("Encode of %v = %v, then %v", r, first, second)
		}
		spoil(first)
		_ = append(first, 9, 9, 9)
		if !slices.Equal(given.Data[:cap(given.Data)], whole) {
			t.Fatalf("Encode of %v changed or shares its Data", r)
		}
		spoil(given.Data)
		if !slices.Equal(second, want) {
			t.Fatalf("Encode of %v: the answer became another one", r)
		}
	}
}

// P11.1: Size is how many bytes Encode answers, of records that look like any.
func TestSizeIsEncoded(t *testing.T) {
	for _, r := range manyRecs(4000) {
		b, e := Encode(r)
		if e != api.OK || len(b) != Size(r) || !slices.Equal(b, slowBytes(r)) {
			t.Fatalf("Encode of %v = %v, %d, Size %d", r, b, e, Size(r))
		}
	}
}
