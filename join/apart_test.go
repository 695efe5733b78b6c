package join

import (
	"slices"
	"strings"
	"testing"

	"strandline/api"
)

// lists are fragments of a whole list of records each.
func lists() [][]api.Frag {
	return [][]api.Frag{
		{of(full, "a")},
		{of(full, "ab"), of(full, ""), of(full, "ab")},
		{of(first, "a"), of(last, "b")},
		{of(first, ""), of(last, "bc"), of(full, "d")},
		{of(first, "abc"), of(middle, ""), of(last, ""), of(first, "d"), of(middle, "ef"), of(last, "g")},
		{of(full, string(mixed(512))), of(first, string(mixed(197))), of(middle, string(mixed(197))), of(last, string(mixed(118)))},
		{of(first, "a"), of(middle, strings.Repeat("b", 30)), of(middle, "c"), of(last, strings.Repeat("d", 200)), of(full, "e"), of(full, string(mixed(33)))},
	}
}

// roomyList is l with bytes in the room behind each one's Data, and other fragments in the room behind the last one.
func roomyList(l []api.Frag) []api.Frag {
	var out []api.Frag
	for _, f := range l {
		out = append(out, api.Frag{Kind: f.Kind, Epoch: f.Epoch, Data: roomy(f.Data)})
	}
	return append(out, of(middle, "behind"), of(9, "more"))[:len(l)]
}

// snapshot is all that l has, the room behind its end and behind its fragments' Data as well.
func snapshot(l []api.Frag) []api.Frag {
	var out []api.Frag
	for _, f := range l[:cap(l)] {
		out = append(out, api.Frag{Kind: f.Kind, Epoch: f.Epoch, Data: whole(f.Data)})
	}
	return out
}

// sameFrags tells whether the fragments are the same, byte by byte.
func sameFrags(a, b []api.Frag) bool {
	return slices.EqualFunc(a, b, func(f, g api.Frag) bool {
		return f.Kind == g.Kind && f.Epoch == g.Epoch && slices.Equal(f.Data, g.Data)
	})
}

// P15.1: fragments that are fed, and the room behind their Data, are left as they were, also by later calls, errors among them.
func TestFedIsLeft(t *testing.T) {
	for i, l := range lists() {
		given := roomyList(l)
		was := snapshot(given)
		j := New()
		for range 3 {
			for _, f := range given {
				j.Feed(f)
				if !sameFrags(snapshot(given), was) {
					t.Fatalf("list %d: Feed changed what was given", i)
				}
			}
			j.Feed(of(last, "x"))
			j.Feed(of(full, string(mixed(most+1))))
			j.Feed(of(first, "begun"))
			j.Feed(of(full, "x"))
			if !sameFrags(snapshot(given), was) {
				t.Fatalf("list %d: Feed changed what was given ahead", i)
			}
		}
	}
}

// P15.1: a joiner goes on with bytes of its own: what was fed may be anything behind that.
func TestFedIsNotKept(t *testing.T) {
	for i, l := range lists() {
		want, _ := slowJoin(l)
		j := New()
		var got [][]byte
		for _, f := range roomyList(l) {
			data, ok, _ := j.Feed(f)
			spoil(f.Data)
			if ok {
				got = append(got, data)
			}
		}
		if !sameRecords(got, want) {
			t.Errorf("list %d: Feed keeps what was given", i)
		}
	}
}

// P15.1: one room that all fragments' Data are read into, one behind the other.
func TestFedFromOneRoom(t *testing.T) {
	for i, l := range lists() {
		want, _ := slowJoin(l)
		j := New()
		room := make([]byte, most)
		var got [][]byte
		for _, f := range l {
			f.Data = room[:copy(room, f.Data)]
			if data, ok, _ := j.Feed(f); ok {
				got = append(got, data)
			}
		}
		if !sameRecords(got, want) {
			t.Errorf("list %d: Feed keeps the room that was given", i)
		}
	}
}

// P15.1: what is answered is new memory, with the room behind its end: apart from what was given, from what the joiner goes on with, and from what was answered ahead.
func TestFeedApart(t *testing.T) {
	all := slices.Concat(lists()...)
	want, _ := slowJoin(all)
	given := roomyList(all)
	was := snapshot(given)
	j := New()
	var got [][]byte
	for i, f := range given {
		data, ok, _ := j.Feed(f)
		if !ok {
			continue
		}
		if !slices.Equal(data, want[len(got)]) {
			t.Fatalf("behind the %dth Feed: %q, not %q", i, data, want[len(got)])
		}
		// It stays turned, so what shares it tells another record from here on.
		spoil(data)
		got = append(got, data)
		if !sameFrags(snapshot(given), was) {
			t.Fatalf("behind the %dth Feed: what is answered is what was given", i)
		}
	}
	for _, data := range got {
		spoil(data)
	}
	if !sameRecords(got, want) {
		t.Error("what is answered was changed by later calls, or is shared")
	}
}

// P15.1: a FragFull's Data is answered as new memory, too: neither reaches the other.
func TestFullApart(t *testing.T) {
	for _, n := range []int{0, 1, 2, 31, 32, 33, 197, 511, 512} {
		data := roomy(mixed(n))
		was := whole(data)
		j := New()
		got, _, _ := j.Feed(api.Frag{Kind: full, Data: data})
		spoil(got)
		if !slices.Equal(whole(data), was) {
			t.Fatalf("%d bytes: what is answered is what was given", n)
		}
		spoil(got)
		spoil(data)
		if !slices.Equal(got, mixed(n)) {
			t.Fatalf("%d bytes: what was given is what is answered", n)
		}
	}
}

// P15.1: what was answered stays, whatever the joiner takes behind it.
func TestAnsweredStays(t *testing.T) {
	for _, n := range []int{1, 5, 31, 33, 100, 300, 511, 512} {
		j := New()
		j.Feed(api.Frag{Kind: first, Data: mixed(n / 2)})
		got, ok, e := j.Feed(api.Frag{Kind: last, Data: mixed(n)[n/2:]})
		if !ok || e != api.OK {
			t.Fatalf("%d bytes: %t, %d", n, ok, e)
		}
		was := whole(got)
		for _, f := range []api.Frag{of(full, "xyz"), of(first, "xyz"), of(middle, strings.Repeat("x", 400)), of(last, "y"), of(first, strings.Repeat("z", 512)), of(full, "")} {
			j.Feed(f)
		}
		if !slices.Equal(whole(got), was) {
			t.Errorf("%d bytes: later calls change what was answered", n)
		}
	}
}

// P15.2: Join leaves its list, its Data and all room behind them as they were, and answers memory that is apart from them.
func TestJoinApart(t *testing.T) {
	for i, l := range lists() {
		want, _ := slowJoin(l)
		given := roomyList(l)
		was := snapshot(given)
		got, e := Join(given)
		again, _ := Join(given)
		if e != api.OK || !sameRecords(got, want) || !sameFrags(snapshot(given), was) {
			t.Fatalf("list %d: Join tells %q, %d, or changed what was given", i, got, e)
		}
		for k := range got {
			spoil(got[k])
			if !sameRecords(got[k+1:], want[k+1:]) || !sameRecords(again, want) || !sameFrags(snapshot(given), was) {
				t.Fatalf("list %d: the %dth record is shared", i, k)
			}
		}
		for k := range got {
			spoil(got[k])
		}
		for _, f := range given {
			spoil(f.Data)
		}
		if !sameRecords(got, want) {
			t.Fatalf("list %d: what is answered is what was given, or records are shared", i)
		}
		for k := range got[:cap(got)] {
			got[:cap(got)][k] = []byte("none")
		}
		if !sameRecords(again, want) {
			t.Fatalf("list %d: two answers share their list", i)
		}
	}
}

// P15.2: lists that end in an error are left as they were, too.
func TestJoinOfErrorsApart(t *testing.T) {
	for i, l := range lists() {
		for _, f := range []api.Frag{of(last, "x"), of(first, "y"), of(0, ""), of(full, string(mixed(most+1)))} {
			given := roomyList(append(slices.Clone(l), f))
			was := snapshot(given)
			if got, e := Join(given); len(got) != 0 || e == api.OK {
				t.Errorf("list %d: Join tells %q, %d", i, got, e)
			}
			if !sameFrags(snapshot(given), was) {
				t.Errorf("list %d: Join changed what was given", i)
			}
		}
	}
}
