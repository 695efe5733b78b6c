package join

import (
	"math"
	"strings"
	"testing"

	"strandline/api"
)

// The chapter's example, and the numbers that the chapter names.
func TestExample(t *testing.T) {
	run(t, "the example", []row{on(first, "a"), ends(last, "b", "ab")})
	l, e := Join([]api.Frag{of(first, "a"), of(last, "b")})
	if len(l) != 1 || string(l[0]) != "ab" || e != api.OK {
		t.Errorf("Join of the example = %q, %d", l, e)
	}
	if api.FragFull != full || api.FragFirst != first || api.FragMiddle != middle || api.FragLast != last || api.MaxRecord != most {
		t.Errorf("FragFull, FragFirst, FragMiddle, FragLast, MaxRecord = %d, %d, %d, %d, %d", api.FragFull, api.FragFirst, api.FragMiddle, api.FragLast, api.MaxRecord)
	}
}

// P15.1: a nil joiner: ErrState, whatever it is fed, and it is idle.
func TestNil(t *testing.T) {
	var j *Joiner
	for _, kind := range append([]int{full, first, middle, last}, others()...) {
		for _, data := range [][]byte{nil, {}, {7}, mixed(most), mixed(most + 1)} {
			if got, ok, e := j.Feed(api.Frag{Kind: kind, Data: data}); len(got) != 0 || ok || e != api.ErrState {
				t.Fatalf("Feed of nil, of Kind %d with %d bytes = %v, %t, %d", kind, len(data), got, ok, e)
			}
			if !j.Idle() {
				t.Fatal("nil isn't idle")
			}
		}
	}
}

// P15.1: New tells an idle joiner, each time another one.
func TestNew(t *testing.T) {
	a, b := New(), New()
	if a == nil || b == nil || a == b || !a.Idle() || !b.Idle() {
		t.Fatal("New tells no new idle joiner")
	}
	a.Feed(of(first, "a"))
	if a.Idle() || !b.Idle() || !New().Idle() {
		t.Error("one joiner's fragments are another one's")
	}
	b.Feed(of(first, "b"))
	b.Feed(of(middle, "c"))
	if got, ok, e := a.Feed(of(last, "d")); string(got) != "ad" || !ok || e != api.OK || b.Idle() {
		t.Errorf("of two joiners the one tells %q, %t, %d", got, ok, e)
	}
	if got, ok, e := b.Feed(of(last, "e")); string(got) != "bce" || !ok || e != api.OK || !a.Idle() {
		t.Errorf("of two joiners the other one tells %q, %t, %d", got, ok, e)
	}
}

// P15.1: what an idle joiner tells of each Kind, and what one that isn't idle tells, written out.
func TestWrittenOut(t *testing.T) {
	for _, data := range []string{"", "a", "\x00", "\x7f", "\x80", "\xff", "\x00\x00", "\x00\x7f\x80\xff", "some bytes", strings.Repeat("\xff\x00", 98)} {
		run(t, "idle, FragFull", []row{ends(full, data, data)})
		run(t, "idle, FragFirst", []row{on(first, data)})
		run(t, "idle, FragMiddle", []row{bad(middle, data, api.ErrForm)})
		run(t, "idle, FragLast", []row{bad(last, data, api.ErrForm)})
		for _, had := range []string{"", "b", "\x00", "\x80\xff\x7f\x00"} {
			begun := on(first, had)
			run(t, "FragFull", []row{begun, bad(full, data, api.ErrForm)})
			run(t, "FragFirst", []row{begun, bad(first, data, api.ErrForm)})
			run(t, "FragMiddle", []row{begun, on(middle, data)})
			run(t, "FragLast", []row{begun, ends(last, data, had+data)})
			run(t, "FragMiddle, FragFull", []row{begun, on(middle, data), bad(full, data, api.ErrForm)})
			run(t, "FragMiddle, FragFirst", []row{begun, on(middle, data), bad(first, data, api.ErrForm)})
			run(t, "FragMiddle, FragLast", []row{begun, on(middle, data), ends(last, data, had+data+data)})
			run(t, "FragMiddles, FragLast", []row{begun, on(middle, data), on(middle, "x"), on(middle, data), ends(last, "y", had+data+"x"+data+"y")})
		}
	}
}

// P15.1: a number that is no Kind is ErrForm, of an idle joiner, of one that has a FragFirst, and of one that has a FragMiddle.
func TestOtherKinds(t *testing.T) {
	for _, kind := range others() {
		for _, data := range []string{"", "a", "some bytes"} {
			run(t, "idle", []row{bad(kind, data, api.ErrForm), ends(full, "b", "b")})
			run(t, "FragFirst", []row{on(first, ""), bad(kind, data, api.ErrForm), ends(full, "b", "b")})
			run(t, "FragFirst with bytes", []row{on(first, "c"), bad(kind, data, api.ErrForm), bad(last, "b", api.ErrForm)})
			run(t, "FragMiddle", []row{on(first, "c"), on(middle, "d"), bad(kind, data, api.ErrForm), bad(middle, "b", api.ErrForm)})
		}
		if t.Failed() {
			t.Fatalf("Kind %d", kind)
		}
	}
}

// P15.1: no Data, and empty Data, are the same, and a FragFirst without any begins a record all the same.
func TestNoData(t *testing.T) {
	for _, data := range [][]byte{nil, {}, roomy(nil), mixed(30)[:0]} {
		j := New()
		for i, kind := range []int{full, first, middle, middle, last, full} {
			got, ok, e := j.Feed(api.Frag{Kind: kind, Data: data})
			wantOK := kind == full || kind == last
			if len(got) != 0 || ok != wantOK || e != api.OK || j.Idle() != wantOK {
				t.Errorf("the %dth Feed without bytes tells %v, %t, %d; Idle %t", i, got, ok, e, j.Idle())
			}
		}
	}
	run(t, "none, then some", []row{on(first, ""), on(middle, ""), on(middle, "a"), on(middle, ""), ends(last, "", "a")})
	run(t, "none, and the last one has all", []row{on(first, ""), ends(last, "ab", "ab")})
}

// P15.1: a joiner is used again behind a true one, and has nothing of what was ahead.
func TestAgainBehindRecord(t *testing.T) {
	run(t, "behind FragFull", []row{ends(full, "ab", "ab"), ends(full, "c", "c"), on(first, "d"), ends(last, "e", "de"), ends(full, "", "")})
	run(t, "behind FragLast", []row{on(first, "ab"), ends(last, "c", "abc"), ends(full, "d", "d"), on(first, "e"), on(middle, "f"), ends(last, "g", "efg"), on(first, ""), ends(last, "", "")})
	run(t, "FragMiddle behind FragFull", []row{ends(full, "ab", "ab"), bad(middle, "c", api.ErrForm)})
	run(t, "FragLast behind FragFull", []row{ends(full, "ab", "ab"), bad(last, "c", api.ErrForm)})
	run(t, "FragMiddle behind FragLast", []row{on(first, "ab"), ends(last, "c", "abc"), bad(middle, "d", api.ErrForm)})
	run(t, "FragLast behind FragLast", []row{on(first, "ab"), ends(last, "c", "abc"), bad(last, "d", api.ErrForm), ends(full, "e", "e")})
}

// P15.1: behind ErrForm it is idle: neither what it had nor what was wrong is there any more.
func TestAgainBehindErrForm(t *testing.T) {
	errors := [][]row{
		{bad(middle, "x", api.ErrForm)},
		{bad(last, "x", api.ErrForm)},
		{bad(0, "x", api.ErrForm)},
		{on(first, "x"), bad(full, "y", api.ErrForm)},
		{on(first, "x"), bad(first, "y", api.ErrForm)},
		{on(first, "x"), bad(5, "y", api.ErrForm)},
		{on(first, ""), bad(first, "", api.ErrForm)},
		{on(first, "x"), on(middle, "y"), bad(full, "z", api.ErrForm)},
		{on(first, "x"), on(middle, "y"), bad(first, "z", api.ErrForm)},
		{on(first, "x"), on(middle, "y"), bad(-1, "z", api.ErrForm)},
	}
	for _, l := range errors {
		usedAgain(t, "behind ErrForm", l)
	}
}

// P15.1: behind ErrLong it is idle as well.
func TestAgainBehindErrLong(t *testing.T) {
	long, all := string(mixed(most+1)), string(mixed(most))
	errors := [][]row{
		{bad(full, long, api.ErrLong)},
		{bad(first, long, api.ErrLong)},
		{on(first, "x"), bad(middle, all, api.ErrLong)},
		{on(first, "x"), bad(last, all, api.ErrLong)},
		{on(first, all), bad(middle, "x", api.ErrLong)},
		{on(first, all), bad(last, "x", api.ErrLong)},
		{on(first, "x"), on(middle, all[1:]), bad(last, "y", api.ErrLong)},
		{on(first, "x"), on(middle, all[1:]), bad(middle, "y", api.ErrLong)},
	}
	for _, l := range errors {
		usedAgain(t, "behind ErrLong", l)
	}
}

// usedAgain fails, if a joiner tells anything else than a new one would, behind what is given and leaves it idle.
func usedAgain(t *testing.T, name string, l []row) {
	t.Helper()
	all := string(mixed(most))
	for _, behind := range [][]row{
		{ends(full, "", "")},
		{ends(full, "a", "a"), ends(full, "b", "b")},
		{ends(full, all, all)},
		{on(first, ""), ends(last, "", "")},
		{on(first, "a"), ends(last, "b", "ab")},
		{on(first, "a"), on(middle, "b"), ends(last, "c", "abc")},
		{on(first, all), on(middle, ""), ends(last, "", all)},
		{bad(middle, "a", api.ErrForm), ends(full, "b", "b")},
		{bad(last, "a", api.ErrForm), on(first, "b"), ends(last, "c", "bc")},
		{bad(0, "a", api.ErrForm), bad(math.MinInt, "", api.ErrForm), bad(last, "", api.ErrForm), on(first, "")},
	} {
		run(t, name, append(l[:len(l):len(l)], behind...))
	}
}

// P15.1: all sequences of three fragments, of each Kind and some numbers that are none, without bytes, with one, and with some: by the chapter's words.
func TestShortSequences(t *testing.T) {
	kinds := []int{full, first, middle, last, 0, 5, -1, math.MinInt, math.MaxInt}
	choice := choices(kinds, [][]byte{nil, {}, {0}, {128}, {0, 127, 128, 255, 9}})
	for l := range sequences(choice, 3) {
		byWords(t, New(), &words{}, l)
	}
}

// P15.1: all longer sequences of fewer such fragments.
func TestLongerSequences(t *testing.T) {
	choice := choices([]int{full, first, middle, last, 0}, [][]byte{nil, {255}})
	for l := range sequences(choice, 5) {
		byWords(t, New(), &words{}, l)
	}
	choice = []api.Frag{of(full, "a"), of(first, "bc"), of(middle, "d"), of(last, ""), of(9, "e")}
	for l := range sequences(choice, 7) {
		byWords(t, New(), &words{}, l)
	}
}

// P15.1: one joiner that takes all sequences, one behind the other: what it told plays no part later.
func TestOneJoinerForAll(t *testing.T) {
	j, w := New(), &words{}
	choice := choices([]int{full, first, middle, last, 0, math.MaxInt}, [][]byte{nil, {0}, mixed(9), mixed(250)})
	for l := range sequences(choice, 3) {
		byWords(t, j, w, l)
	}
}

// P15.1: sequences that look like any, of Data of many lengths.
func TestScatteredSequences(t *testing.T) {
	numbers := scatter(120000)
	data := scatter(600)
	j, w := New(), &words{}
	records, longs := 0, 0
	for i := 0; i+3 < len(numbers); i += 3 {
		// Most of them are such as may come, so that records are ended.
		kinds := []int{full, first, first, first, first, first, middle, last}
		if w.busy {
			kinds = []int{full, first, middle, middle, middle, middle, last, last}
		}
		kind := kinds[numbers[i]%8]
		from := int(numbers[i+1])
		f := api.Frag{Kind: kind, Epoch: uint32(i), Data: data[from : from+int(numbers[i+2])]}
		want, wantOK, wantE := w.feed(f)
		got, ok, e := j.Feed(f)
		if string(got) != string(want) || ok != wantOK || e != wantE || j.Idle() == w.busy {
			t.Fatalf("the %dth Feed tells %d bytes, %t, %d, not %d, %t, %d; Idle %t", i/3, len(got), ok, e, len(want), wantOK, wantE, j.Idle())
		}
		if ok {
			records++
		}
		if e == api.ErrLong {
			longs++
		}
	}
	if records < 3000 || longs < 1000 {
		t.Errorf("just %d records and %d that are too long", records, longs)
	}
}

// P15.1: a fragment's Epoch says nothing: whatever they are, the same is told.
func TestEpochs(t *testing.T) {
	epochs := []uint32{0, 1, 255, 256, 1<<31 - 1, 1 << 31, math.MaxUint32}
	for _, a := range epochs {
		for _, b := range epochs {
			for _, c := range epochs {
				l := []api.Frag{of(full, "a"), of(first, "b"), of(middle, "c"), of(last, "d"), of(last, "e"), of(full, "f")}
				for i, epoch := range []uint32{a, b, c, c, b, a} {
					l[i].Epoch = epoch
				}
				byWords(t, New(), &words{}, l)
				if got, e := Join(l[:4]); len(got) != 2 || string(got[0]) != "a" || string(got[1]) != "bcd" || e != api.OK {
					t.Fatalf("Join of epochs %d, %d, %d = %q, %d", a, b, c, got, e)
				}
			}
		}
	}
}

// P15.1: Idle changes nothing, however often it is asked.
func TestIdleChangesNothing(t *testing.T) {
	j := New()
	for i, r := range []row{on(first, "a"), on(middle, "b"), ends(last, "c", "abc"), ends(full, "d", "d"), on(first, "e"), bad(full, "f", api.ErrForm)} {
		got, ok, e := j.Feed(r.f)
		if string(got) != r.want || ok != r.ok || e != r.e {
			t.Errorf("the %dth Feed tells %q, %t, %d", i, got, ok, e)
		}
		for range 5 {
			if j.Idle() != r.idle {
				t.Fatalf("behind the %dth Feed Idle is %t", i, !r.idle)
			}
		}
	}
}
