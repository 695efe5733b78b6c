package op

import (
	"math"
	"slices"
	"strings"
	"testing"

	"strandline/api"
)

// The chapter's example, a put beside it, and the limits.
func TestExample(t *testing.T) {
	for _, c := range []struct {
		o api.Op
		b []byte
	}{
		{api.Op{Kind: api.OpDelete, Key: "a"}, []byte{2, 1, 97}},
		{api.Op{Kind: api.OpPut, Key: "a"}, []byte{1, 1, 97, 0}},
		{api.Op{Kind: api.OpPut, Key: "ab", Val: "xyz"}, []byte{1, 2, 97, 98, 3, 120, 121, 122}},
	} {
		if !Right(c.o) {
			t.Errorf("%v isn't right", c.o)
		}
		if b, e := Put(nil, c.o); !slices.Equal(b, c.b) || e != api.OK {
			t.Errorf("Put of %v = %v, %d", c.o, b, e)
		}
		if o, size, e := Get(c.b); o != c.o || size != len(c.b) || e != api.OK {
			t.Errorf("Get of %v = %v, %d, %d", c.b, o, size, e)
		}
		if !Same([]api.Op{c.o}, []api.Op{c.o}) {
			t.Errorf("%v isn't the same as itself", c.o)
		}
	}
	if api.OpPut != put || api.OpDelete != del || api.MaxKey != mostKey || api.MaxVal != mostVal {
		t.Errorf("OpPut, OpDelete, MaxKey, MaxVal = %d, %d, %d, %d", api.OpPut, api.OpDelete, api.MaxKey, api.MaxVal)
	}
}

// P10.1: Right at each bound of a Kind, a Key and a Val, written out.
func TestRight(t *testing.T) {
	for _, c := range []struct {
		kind, key, val int
		want           bool
	}{
		{put, 0, 0, false}, {put, 0, 1, false}, {put, 0, 128, false}, {put, 0, 129, false},
		{put, 1, 0, true}, {put, 1, 1, true}, {put, 1, 128, true}, {put, 1, 129, false},
		{put, 24, 0, true}, {put, 24, 1, true}, {put, 24, 128, true}, {put, 24, 129, false},
		{put, 25, 0, false}, {put, 25, 1, false}, {put, 25, 128, false}, {put, 25, 129, false},
		{del, 0, 0, false}, {del, 0, 1, false}, {del, 0, 128, false}, {del, 0, 129, false},
		{del, 1, 0, true}, {del, 1, 1, false}, {del, 1, 128, false}, {del, 1, 129, false},
		{del, 24, 0, true}, {del, 24, 1, false}, {del, 24, 128, false}, {del, 24, 129, false},
		{del, 25, 0, false}, {del, 25, 1, false}, {del, 25, 128, false}, {del, 25, 129, false},
	} {
		for _, key := range filled(c.key) {
			for _, val := range filled(c.val) {
				if got := Right(api.Op{Kind: c.kind, Key: key, Val: val}); got != c.want {
					t.Errorf("Right of %d, %d bytes and %d = %t: %q, %q", c.kind, c.key, c.val, got, key, val)
				}
			}
		}
	}
}

// P10.1: an operation of no Kind isn't right, whatever its Key and Val are.
func TestRightOfNoKind(t *testing.T) {
	for _, kind := range kinds() {
		if kind == put || kind == del {
			continue
		}
		for _, key := range []int{0, 1, 24, 25} {
			for _, val := range []int{0, 1, 128, 129} {
				if Right(api.Op{Kind: kind, Key: mixed(key), Val: mixed(val)}) {
					t.Errorf("%d, %d bytes and %d are right", kind, key, val)
				}
			}
		}
	}
	if Right(api.Op{}) {
		t.Error("the zero operation is right")
	}
}

// P10.1: Right tells of each operation what the chapter's words tell.
func TestRightByWords(t *testing.T) {
	right := 0
	for _, o := range ops() {
		want := slowRight(o)
		if Right(o) != want {
			t.Fatalf("Right of %d, %d bytes and %d = %t", o.Kind, len(o.Key), len(o.Val), !want)
		}
		if want {
			right++
		}
	}
	if right < 500 {
		t.Errorf("just %d operations are right", right)
	}
}

// P10.1: each length of a Key and of a Val.
func TestRightOfLengths(t *testing.T) {
	for n := range 600 {
		for _, c := range []struct {
			o    api.Op
			want bool
		}{
			{api.Op{Kind: put, Key: mixed(n), Val: "x"}, n >= 1 && n <= 24},
			{api.Op{Kind: del, Key: mixed(n)}, n >= 1 && n <= 24},
			{api.Op{Kind: put, Key: "x", Val: mixed(n)}, n <= 128},
			{api.Op{Kind: del, Key: "x", Val: mixed(n)}, n == 0},
		} {
			if Right(c.o) != c.want {
				t.Errorf("Right of %d, %d bytes and %d = %t", c.o.Kind, len(c.o.Key), len(c.o.Val), !c.want)
			}
		}
	}
}

// P10.1: Put at the bounds, with the bytes written out.
func TestPut(t *testing.T) {
	key, val := mixed(24), mixed(128)
	for _, c := range []struct {
		why  string
		o    api.Op
		want []byte
	}{
		{"put of the least", api.Op{Kind: put, Key: "\x00"}, []byte{1, 1, 0, 0}},
		{"put of one byte", api.Op{Kind: put, Key: "\xff", Val: "\x80"}, []byte{1, 1, 255, 1, 128}},
		{"put of the greatest key", api.Op{Kind: put, Key: key}, slices.Concat([]byte{1, 24}, []byte(key), []byte{0})},
		{"put of 127 bytes", api.Op{Kind: put, Key: "k", Val: val[:127]}, slices.Concat([]byte{1, 1, 107, 127}, []byte(val[:127]))},
		{"put of 128 bytes", api.Op{Kind: put, Key: "k", Val: val}, slices.Concat([]byte{1, 1, 107, 128, 1}, []byte(val))},
		{"put of the greatest", api.Op{Kind: put, Key: key, Val: val}, slices.Concat([]byte{1, 24}, []byte(key), []byte{128, 1}, []byte(val))},
		{"delete of the least", api.Op{Kind: del, Key: "\x00"}, []byte{2, 1, 0}},
		{"delete of 127", api.Op{Kind: del, Key: "\x7f"}, []byte{2, 1, 127}},
		{"delete of the greatest", api.Op{Kind: del, Key: key}, slices.Concat([]byte{2, 24}, []byte(key))},
	} {
		for _, ahead := range behinds() {
			if b, e := Put(ahead, c.o); !slices.Equal(b, slices.Concat(ahead, c.want)) || e != api.OK {
				t.Errorf("%s, behind %d bytes: %v, %d", c.why, len(ahead), b, e)
			}
		}
	}
}

// P10.1: Put tells of each operation what the chapter's words tell, behind no bytes and some.
func TestPutByWords(t *testing.T) {
	for _, o := range ops() {
		for _, ahead := range [][]byte{nil, {}, roomy(nil), {7}, roomy([]byte{128, 0, 255})} {
			b, e := Put(ahead, o)
			if !slowRight(o) {
				if len(b) != 0 || e != api.ErrArg {
					t.Fatalf("Put of %d, %d bytes and %d = %v, %d", o.Kind, len(o.Key), len(o.Val), b, e)
				}
			} else if !slices.Equal(b, slices.Concat(ahead, slowBytes(o))) || e != api.OK {
				t.Fatalf("Put of %v behind %v = %v, %d", o, ahead, b, e)
			}
		}
	}
}

// P10.1: with ErrArg nothing is answered, whatever is ahead; and that stays as it is.
func TestPutOfWrong(t *testing.T) {
	for _, o := range []api.Op{
		{},
		{Kind: put}, {Kind: put, Val: "x"}, {Kind: put, Key: mixed(25)}, {Kind: put, Key: "a", Val: mixed(129)},
		{Kind: del}, {Kind: del, Val: "x"}, {Kind: del, Key: mixed(25)}, {Kind: del, Key: "a", Val: "\x00"},
		{Kind: 0, Key: "a"}, {Kind: 3, Key: "a"}, {Kind: -1, Key: "a"}, {Kind: 257, Key: "a"}, {Kind: 258, Key: "a"},
		{Kind: math.MinInt, Key: "a"}, {Kind: math.MaxInt, Key: "a"}, {Kind: math.MinInt + 1, Key: "a"},
	} {
		for _, ahead := range behinds() {
			b := roomy(ahead)
			whole := slices.Clone(b[:cap(b)])
			if got, e := Put(b, o); len(got) != 0 || e != api.ErrArg {
				t.Errorf("Put of %v behind %d bytes = %v, %d", o, len(ahead), got, e)
			}
			if !slices.Equal(b[:cap(b)], whole) {
				t.Errorf("Put of %v changed what was given", o)
			}
		}
	}
}

// P10.1: Put neither changes nor keeps what it was given, nor the room behind its end.
func TestPutIsNew(t *testing.T) {
	l := append(manyOps(50), api.Op{Kind: put, Key: mixed(24), Val: mixed(128)}, api.Op{Kind: del, Key: "a"})
	for _, o := range l {
		for _, ahead := range behinds() {
			b := roomy(ahead)
			whole := slices.Clone(b[:cap(b)])
			first, _ := Put(b, o)
			second, _ := Put(b, o)
			spoil(first)
			_ = append(first, 9, 9, 9)
			if len(b) != len(ahead) || !slices.Equal(b[:cap(b)], whole) {
				t.Fatalf("Put of %v behind %d bytes changed or shares them", o, len(ahead))
			}
			spoil(b)
			if !slices.Equal(second, slices.Concat(ahead, slowBytes(o))) {
				t.Fatalf("Put of %v behind %d bytes: the answer became another one", o, len(ahead))
			}
		}
	}
}

// P10.1: Same of no list, of nil and of empty ones.
func TestSameOfNone(t *testing.T) {
	one := []api.Op{{}}
	if !Same(nil, nil) || !Same(nil, []api.Op{}) || !Same([]api.Op{}, nil) || !Same([]api.Op{}, []api.Op{}) || !Same(one[:0], nil) {
		t.Error("two empty lists aren't the same")
	}
	if Same(nil, one) || Same(one, nil) || Same([]api.Op{}, one) || Same(one, one[:0]) {
		t.Error("none, and one that is zero, are the same")
	}
}

// P10.1: Same of lists of which one begins with the other one, either way round.
func TestSameOfLengths(t *testing.T) {
	l := append(manyOps(20), api.Op{}, api.Op{})
	for i := range len(l) + 1 {
		for k := range len(l) + 1 {
			if got := Same(l[:i], slices.Clone(l[:k])); got != (i == k) {
				t.Errorf("Same of the first %d and the first %d = %t", i, k, got)
			}
		}
	}
}

// P10.1: Same of lists that differ in one Kind, one Key or one Val alone, at each place, either way round.
func TestSameOfOther(t *testing.T) {
	change := []func(o *api.Op){
		func(o *api.Op) { o.Kind = 3 - o.Kind },
		func(o *api.Op) { o.Kind += 256 },
		func(o *api.Op) { o.Kind = math.MinInt },
		func(o *api.Op) { o.Key = o.Key[1:] },
		func(o *api.Op) { o.Key += "\x00" },
		func(o *api.Op) { o.Key = strings.ToUpper(o.Key) },
		func(o *api.Op) { o.Key = "" },
		func(o *api.Op) { o.Val = o.Val[:len(o.Val)-1] },
		func(o *api.Op) { o.Val = "\x00" + o.Val },
		func(o *api.Op) { o.Val = o.Val[:1] + "\xff" + o.Val[2:] },
		func(o *api.Op) { o.Val = "" },
		func(o *api.Op) { o.Key, o.Val = o.Key+o.Val[:1], o.Val[1:] },
		func(o *api.Op) { o.Key, o.Val = o.Val, o.Key },
	}
	for _, n := range []int{1, 2, 3, 9} {
		var l []api.Op
		for i := range n {
			l = append(l, api.Op{Kind: put + i%2, Key: "key" + mixed(i), Val: "val" + mixed(i)})
		}
		if !Same(l, slices.Clone(l)) {
			t.Fatalf("%d operations aren't the same as they are", n)
		}
		for i := range n {
			for k, f := range change {
				other := slices.Clone(l)
				f(&other[i])
				if Same(l, other) || Same(other, l) {
					t.Errorf("of %d the place %d, changed by %d, is the same", n, i, k)
				}
			}
		}
	}
}

// P10.1: Same hangs on the order, and of operations that aren't right it tells too.
func TestSameOfAny(t *testing.T) {
	a, b := api.Op{Kind: put, Key: "a", Val: "x"}, api.Op{Kind: del, Key: "b"}
	if Same([]api.Op{a, b}, []api.Op{b, a}) || Same([]api.Op{a, a, b}, []api.Op{a, b, b}) {
		t.Error("the same in another order")
	}
	var wrong []api.Op
	for _, o := range ops() {
		if !slowRight(o) && len(o.Key)+len(o.Val) < 300 {
			wrong = append(wrong, o)
		}
	}
	other := make([]api.Op, len(wrong))
	for i, o := range wrong {
		other[i] = api.Op{Kind: o.Kind, Key: strings.Clone(o.Key), Val: strings.Clone(o.Val)}
	}
	if !Same(wrong, other) {
		t.Error("lists of wrong ones aren't the same")
	}
	other[len(other)-1].Val += "\x00"
	if Same(wrong, other) {
		t.Error("lists of wrong ones are the same, but for the last Val")
	}
}
