package batch

import (
	"math"
	"slices"
	"testing"

	"strandline/api"
)

// twoWays are each key with a put of it and a delete of it behind one another, the one way and the other.
func twoWays(key string) (a, b []api.Op) {
	p, d := api.Op{Kind: put, Key: key, Val: "x"}, api.Op{Kind: del, Key: key}
	return []api.Op{p, d}, []api.Op{d, p}
}

// P12.2: Last of no operations, whatever lies in the room behind them.
func TestLastOfNone(t *testing.T) {
	for _, l := range [][]api.Op{nil, {}, roomyOps(nil)} {
		if got := Last(l); len(got) != 0 {
			t.Errorf("Last of none = %v", got)
		}
	}
}

// P12.2: Last of one is that one, right or not.
func TestLastOfOne(t *testing.T) {
	for _, o := range append(telling(), wrongOps()...) {
		sameOps(t, "one", Last([]api.Op{o}), []api.Op{o})
		sameOps(t, "one, and room", Last(roomyOps([]api.Op{o})), []api.Op{o})
	}
}

// P12.2: Last with the answers written out.
func TestLastWrittenOut(t *testing.T) {
	at := func(key, val string) api.Op { return api.Op{Kind: put, Key: key, Val: val} }
	no := func(key string) api.Op { return api.Op{Kind: del, Key: key} }
	for _, c := range []struct {
		why     string
		l, want []api.Op
	}{
		{"a put, and a delete", []api.Op{at("a", "1"), no("a")}, []api.Op{no("a")}},
		{"a delete, and a put", []api.Op{no("a"), at("a", "1")}, []api.Op{at("a", "1")}},
		{"two puts", []api.Op{at("a", "1"), at("a", "2")}, []api.Op{at("a", "2")}},
		{"a put of more, and of nothing", []api.Op{at("a", "1"), at("a", "")}, []api.Op{at("a", "")}},
		{"the same once more", []api.Op{no("a"), no("a"), no("a")}, []api.Op{no("a")}},
		{"in order", []api.Op{at("a", "1"), at("b", "2"), no("c")}, []api.Op{at("a", "1"), at("b", "2"), no("c")}},
		{"the other way about", []api.Op{no("c"), at("b", "2"), at("a", "1")}, []api.Op{at("a", "1"), at("b", "2"), no("c")}},
		{"mixed", []api.Op{at("b", "1"), at("a", "2"), no("b"), at("c", "3"), at("a", "4"), at("b", "5")}, []api.Op{at("a", "4"), at("b", "5"), at("c", "3")}},
		{"beginnings", []api.Op{at("abc", "3"), at("ab", "2"), at("a", "1"), no("abcd")}, []api.Op{at("a", "1"), at("ab", "2"), at("abc", "3"), no("abcd")}},
		{"beginnings that a byte is ahead of", []api.Op{no("b"), no("a\x00"), no("aa"), no("a")}, []api.Op{no("a"), no("a\x00"), no("aa"), no("b")}},
		{"bytes 255, 128, 127 and 0", []api.Op{no("\xff"), no("\x80"), no("\x7f"), no("\x00")}, []api.Op{no("\x00"), no("\x7f"), no("\x80"), no("\xff")}},
		{"zeros", []api.Op{no("\x00\x00"), no("\x00"), no("\x00\x00\x00")}, []api.Op{no("\x00"), no("\x00\x00"), no("\x00\x00\x00")}},
		{"bytes of one rune, and not of one", []api.Op{no("é"), no("\xc3"), no("z"), no("\xc3\x28")}, []api.Op{no("z"), no("\xc3"), no("\xc3\x28"), no("é")}},
		{"an empty Key", []api.Op{at("a", "1"), at("", "2"), no("")}, []api.Op{no(""), at("a", "1")}},
		{"Kinds that are none", []api.Op{{Kind: 7, Key: "b"}, {Kind: -1, Key: "a", Val: "v"}, {Key: "b", Val: "w"}}, []api.Op{{Kind: -1, Key: "a", Val: "v"}, {Key: "b", Val: "w"}}},
		{"a delete with a Val", []api.Op{at("a", "1"), {Kind: del, Key: "a", Val: "2"}}, []api.Op{{Kind: del, Key: "a", Val: "2"}}},
		{"zero operations", make([]api.Op, 12), []api.Op{{}}},
	} {
		for range 20 {
			sameOps(t, c.why, Last(c.l), c.want)
		}
	}
}

// P12.2: of a Key the last one counts, wherever it stands among others, and whatever it is.
func TestLastOfOneKey(t *testing.T) {
	all := append(telling(), wrongOps()...)
	for i := range all {
		all[i].Key = "k"
	}
	for n := 1; n <= len(all); n++ {
		sameOps(t, "all of one Key", Last(all[:n]), all[n-1:n])
	}
	for _, key := range []string{"", "a", "\x00", "\x80", "\xff", mixed(24), mixed(25), mixed(1000)} {
		a, b := twoWays(key)
		sameOps(t, "a put, and a delete", Last(a), a[1:])
		sameOps(t, "a delete, and a put", Last(b), b[1:])
		sameOps(t, "both, and once more", Last(slices.Concat(a, b)), b[1:])
		sameOps(t, "both the other way about", Last(slices.Concat(b, a)), a[1:])
	}
}

// P12.2: Keys of one byte each, of all values, in order, the other way about, and mixed.
func TestLastOfBytes(t *testing.T) {
	var want []api.Op
	for x := range 256 {
		want = append(want, api.Op{Kind: put, Key: string([]byte{byte(x)}), Val: "v"})
	}
	other := slices.Clone(want)
	slices.Reverse(other)
	var strewn []api.Op
	for i := range 256 {
		strewn = append(strewn, want[i*77%256])
	}
	for _, l := range [][]api.Op{want, other, strewn, slices.Concat(strewn, other, want), slices.Concat(other, strewn)} {
		sameOps(t, "one byte each", Last(l), want)
	}
}

// P12.2: Last of lists of all lengths, with Keys of few values and of many, is what the chapter's words tell; right or not.
func TestLastByWords(t *testing.T) {
	for i, l := range manyLists(1500) {
		want := slowLast(l)
		for range 3 {
			sameOps(t, "any list", Last(l), want)
		}
		if t.Failed() {
			t.Fatalf("list %d: %d operations", i, len(l))
		}
	}
}

// P12.2: Last of far more operations than a batch has: one of each Key, in order.
func TestLastOfMany(t *testing.T) {
	var l []api.Op
	for i, n := range scatter(50000) {
		l = append(l, api.Op{Kind: put, Key: text([]uint64{n, n << 8})[:1+i%2], Val: mixed(i % 100)})
	}
	got, at := Last(l), map[string]int{}
	for i, o := range l {
		at[o.Key] = i
	}
	if len(got) != len(at) || len(at) < 10000 {
		t.Fatalf("%d operations are told, of %d Keys", len(got), len(at))
	}
	for i, o := range got {
		if o != l[at[o.Key]] {
			t.Fatalf("of %q the last one is %v, told is %v", o.Key, l[at[o.Key]], o)
		}
		if i > 0 && !slowBelow(got[i-1].Key, o.Key) {
			t.Fatalf("%q is told behind %q", o.Key, got[i-1].Key)
		}
	}
}

// P12.2: Last's list is a new one: what is given may change, and what is told, and neither changes the other.
func TestLastIsNew(t *testing.T) {
	for _, given := range manyLists(200) {
		l, want := roomyOps(given), slowLast(given)
		got, again := Last(l), Last(l)
		spoilOps(again)
		sameOps(t, "what was given, behind another answer's change", l, given)
		sameOps(t, "another answer's change", got, want)
		spoilOps(l)
		sameOps(t, "the list's change", got, want)
	}
}

// P12.4: Last of Last is Last.
func TestLastOfLast(t *testing.T) {
	for _, l := range append(manyLists(1500), nil, wrongOps(), telling(), manyOps(3000)) {
		once := Last(l)
		sameOps(t, "Last of Last", Last(once), once)
		sameOps(t, "Last of it and all behind it", Last(slices.Concat(l, once)), once)
	}
}

// manyLists are lists of up to 60 operations with Keys of few values and of many, right ones and wrong ones.
func manyLists(count int) [][]api.Op {
	var l [][]api.Op
	numbers := scatter(count + 100)
	for i := range count {
		var ops []api.Op
		for _, n := range numbers[i : i+int(numbers[i]>>33%61)] {
			o := api.Op{Kind: put, Key: text([]uint64{n, n << 3})[:n>>13%3], Val: text([]uint64{n << 5})}
			if i%3 > 0 {
				o.Key = []string{"", "a", "b", "ab", "a\x00", "\xff", "\x80", "\x7f"}[n>>43%8]
			}
			switch n >> 50 % 8 {
			case 0, 1:
				o.Kind, o.Val = del, ""
			case 2:
				o.Kind = int(n>>53) - 1000
			case 3:
				o.Kind = math.MaxInt
			}
			ops = append(ops, o)
		}
		l = append(l, ops)
	}
	return l
}
