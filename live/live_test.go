package live

import (
	"encoding/hex"
	"math"
	"slices"
	"strings"
	"testing"

	"strandline/api"
	"strandline/disk"
	"strandline/record"
	"strandline/segment"
	"strandline/writer"
)

// secOf is the sector whose bytes a text begins with.
func secOf(t *testing.T, text string) api.Sec {
	t.Helper()
	b, err := hex.DecodeString(text)
	if err != nil {
		t.Fatal(err)
	}
	var s api.Sec
	copy(s[:], b)
	return s
}

// The chapter's example, and the numbers that the tests tell themselves.
func TestExample(t *testing.T) {
	d := disk.New(whole)
	l, e := Load(d)
	if len(l) != 0 || e != api.OK {
		t.Errorf("%d segments, error %d", len(l), e)
	}
	fine(t, d.Make("free-0", whole))
	if l, e := Load(d); len(l) != 0 || e != api.OK {
		t.Errorf("%d segments, error %d", len(l), e)
	}
	if api.MaxChains != chains || api.MaxLSN != mostLSN || api.MaxRecord != longest || api.Sector != sector || api.Stamp != ahead || api.Room != room || api.Data != sectors || api.BlockRoom != block || api.SegRoom != all || api.Head != head || api.SegSectors != whole || api.EndClean != clean || api.EndTorn != torn {
		t.Error("the limits are others")
	}
}

// P25.1, P25.2: two segments, byte by byte, their masked sums reckoned apart.
func TestWrittenOut(t *testing.T) {
	first, second := make([]api.Sec, whole), make([]api.Sec, whole)
	first[0] = secOf(t, "73747264010500000000000000010000000100000000000000000000000000000000000000c3f6db4c")
	first[1] = secOf(t, "050000000000000000000000"+"42cfb00306000105000000010001016869"+"a4d272c00400010500000002030202"+"33d5a62e050001050000000900030278")
	second[0] = secOf(t, "73747264010600000000000000020000000400000003000000000000000000000002000000bb88d5a0")
	second[1] = secOf(t, "060000000000000000000000"+"7631ad450400010600000001030402")
	want := []Segment{
		{
			H: api.Header{Epoch: 5, Seq: 1, First: 1},
			Recs: []api.Rec{
				{Kind: 1, Chain: 0, LSN: 1, Prev: 0, Data: []byte("hi")},
				{Kind: 2, Chain: 3, LSN: 2, Prev: 0},
				{Kind: 9, Chain: 0, LSN: 3, Prev: 1, Data: []byte("x")},
			},
			Places: []int{0, 17, 32}, End: 48, Kind: clean,
		},
		{
			H:      api.Header{Epoch: 6, Seq: 2, First: 4, Heads: [4]int{3, 0, 0, 2}},
			Recs:   []api.Rec{{Kind: 1, Chain: 3, LSN: 4, Prev: 2}},
			Places: []int{0}, End: 15, Kind: clean,
		},
	}
	d := laid(t, api.File{Name: "wal-2", L: second}, api.File{Name: "wal-1", L: first})
	loads(t, "two segments", d, want, api.OK)
	tells(t, "two segments", want, 5, [4]int{3, 0, 0, 4})
	tells(t, "the first one", want[:1], 4, [4]int{3, 0, 0, 2})
	fine(t, d.Remove("wal-2"))
	loads(t, "the first one", d, want[:1], api.OK)
	// One more byte behind the end: of the last segment that is a torn tail, of another one it isn't right.
	first[1][ahead+48] = 1
	want[0].Kind = torn
	loads(t, "torn", laid(t, api.File{Name: "wal-1", L: first}), want[:1], api.OK)
	refuses(t, "torn ahead of another one", laid(t, api.File{Name: "wal-1", L: first}, api.File{Name: "wal-2", L: second}), api.ErrCorrupt)
}

// P25.1: segments written out, with what each call tells of them.
func TestRows(t *testing.T) {
	h := func(epoch uint64, seq, first int, heads ...int) api.Header {
		h := api.Header{Epoch: epoch, Seq: seq, First: first}
		copy(h.Heads[:], heads)
		return h
	}
	for _, c := range []struct {
		what  string
		l     []Segment
		e     api.Errno
		next  int
		heads [4]int
	}{
		{"no segment", nil, api.OK, 1, [4]int{}},
		{"an empty list", []Segment{}, api.OK, 1, [4]int{}},
		{"one without records", []Segment{seg(h(1, 1, 1))}, api.OK, 1, [4]int{}},
		{"one without records, not the first of a log", []Segment{seg(h(9, 7, 30, 29, 3, 0, 12))}, api.OK, 30, [4]int{29, 3, 0, 12}},
		{"one with a record", []Segment{seg(h(1, 1, 1), rec(2, 1, 0))}, api.OK, 2, [4]int{0, 0, 1, 0}},
		{"one with records", []Segment{seg(h(1, 1, 1), rec(2, 1, 0), rec(2, 2, 1), rec(0, 3, 0), rec(2, 4, 2))}, api.OK, 5, [4]int{3, 0, 4, 0}},
		{"records of each chain", []Segment{seg(h(1, 1, 1), rec(3, 1, 0), rec(2, 2, 0), rec(1, 3, 0), rec(0, 4, 0))}, api.OK, 5, [4]int{4, 3, 2, 1}},
		{"records behind the header's heads", []Segment{seg(h(9, 7, 30, 29, 3, 0, 12), rec(3, 30, 12), rec(1, 31, 3), rec(3, 32, 30))}, api.OK, 33, [4]int{29, 31, 0, 32}},
		{"a head of none", []Segment{seg(h(9, 7, 30, 29), rec(3, 30, 29))}, api.ErrCorrupt, 31, [4]int{29, 0, 0, 30}},
		{"none of a head", []Segment{seg(h(9, 7, 30, 29), rec(0, 30, 0))}, api.ErrCorrupt, 31, [4]int{30, 0, 0, 0}},
		{"a Prev of two records ago", []Segment{seg(h(1, 1, 1), rec(1, 1, 0), rec(1, 2, 1), rec(1, 3, 1))}, api.ErrCorrupt, 4, [4]int{0, 3, 0, 0}},
		{"the first number isn't First", []Segment{seg(h(1, 1, 1), rec(1, 2, 0))}, api.ErrCorrupt, 3, [4]int{0, 2, 0, 0}},
		{"a number twice", []Segment{seg(h(1, 1, 1), rec(1, 1, 0), rec(2, 1, 0))}, api.ErrCorrupt, 2, [4]int{0, 1, 1, 0}},
		{"a number is missed", []Segment{seg(h(1, 1, 1), rec(1, 1, 0), rec(2, 3, 0))}, api.ErrCorrupt, 4, [4]int{0, 1, 3, 0}},
		{"a chain above", []Segment{seg(h(1, 1, 1), rec(0, 1, 0), rec(4, 2, 0))}, api.ErrCorrupt, 3, [4]int{1, 0, 0, 0}},
		{"a chain below", []Segment{seg(h(1, 1, 1), rec(-1, 1, 0), rec(-1, 2, 1))}, api.ErrCorrupt, 3, [4]int{0, 0, 0, 0}},
		{"two segments without records", []Segment{seg(h(1, 1, 1)), seg(h(2, 2, 1))}, api.OK, 1, [4]int{}},
		{"two segments", []Segment{seg(h(1, 1, 1), rec(0, 1, 0), rec(1, 2, 0)), seg(h(2, 2, 3, 1, 2), rec(0, 3, 1))}, api.OK, 4, [4]int{3, 2, 0, 0}},
		{"the last one without records", []Segment{seg(h(1, 1, 1), rec(0, 1, 0), rec(1, 2, 0)), seg(h(2, 2, 3, 1, 2))}, api.OK, 3, [4]int{1, 2, 0, 0}},
		{"one without records between", []Segment{seg(h(1, 1, 1), rec(0, 1, 0)), seg(h(2, 2, 2, 1)), seg(h(3, 3, 2, 1), rec(0, 2, 1))}, api.OK, 3, [4]int{2, 0, 0, 0}},
		{"an epoch much greater", []Segment{seg(h(1, 1, 1)), seg(h(math.MaxUint64, 2, 1))}, api.OK, 1, [4]int{}},
		{"epochs about 2^32", []Segment{seg(h(1<<32-1, 1, 1)), seg(h(1<<32, 2, 1)), seg(h(1<<33, 3, 1))}, api.OK, 1, [4]int{}},
		{"epochs about 2^63", []Segment{seg(h(1<<63-1, 1, 1)), seg(h(1<<63, 2, 1)), seg(h(1<<63+1, 3, 1))}, api.OK, 1, [4]int{}},
		{"an epoch below 2^63 behind one above", []Segment{seg(h(1<<63, 1, 1)), seg(h(1<<63-1, 2, 1))}, api.ErrCorrupt, 1, [4]int{}},
		{"an epoch that is greater in its lowest 32 bits", []Segment{seg(h(1<<32, 1, 1)), seg(h(5, 2, 1))}, api.ErrCorrupt, 1, [4]int{}},
		{"the same epoch", []Segment{seg(h(4, 1, 1)), seg(h(4, 2, 1))}, api.ErrCorrupt, 1, [4]int{}},
		{"the same Seq", []Segment{seg(h(4, 2, 1)), seg(h(5, 2, 1))}, api.ErrCorrupt, 1, [4]int{}},
		{"two Seqs more", []Segment{seg(h(4, 2, 1)), seg(h(5, 4, 1))}, api.ErrCorrupt, 1, [4]int{}},
		{"one Seq less", []Segment{seg(h(4, 2, 1)), seg(h(5, 1, 1))}, api.ErrCorrupt, 1, [4]int{}},
		{"First is the last number", []Segment{seg(h(1, 1, 1), rec(0, 1, 0)), seg(h(2, 2, 1))}, api.ErrCorrupt, 1, [4]int{}},
		{"First is one too many", []Segment{seg(h(1, 1, 1), rec(0, 1, 0)), seg(h(2, 2, 3, 1))}, api.ErrCorrupt, 3, [4]int{1}},
		{"First isn't that of one without records", []Segment{seg(h(1, 1, 1)), seg(h(2, 2, 2))}, api.ErrCorrupt, 2, [4]int{}},
		{"a head that isn't the last one", []Segment{seg(h(1, 1, 1), rec(0, 1, 0), rec(0, 2, 1)), seg(h(2, 2, 3, 1))}, api.ErrCorrupt, 3, [4]int{1}},
		{"a head of a chain without records", []Segment{seg(h(1, 1, 1), rec(0, 1, 0)), seg(h(2, 2, 2, 1, 1))}, api.ErrCorrupt, 2, [4]int{1, 1}},
		{"the greatest numbers", []Segment{seg(h(1, mostLSN-1, mostLSN-1), rec(0, mostLSN-1, 0)), seg(h(2, mostLSN, mostLSN, mostLSN-1), rec(0, mostLSN, mostLSN-1))}, api.OK, mostLSN + 1, [4]int{mostLSN, 0, 0, 0}},
		{"no right header", []Segment{{}}, api.ErrArg, 0, [4]int{}},
		{"no Places", []Segment{{H: h(1, 1, 1), Recs: []api.Rec{rec(0, 1, 0)}}}, api.ErrArg, 2, [4]int{1}},
		{"no Recs", []Segment{{H: h(1, 1, 1), Places: []int{0}}}, api.ErrArg, 1, [4]int{}},
	} {
		checks(t, c.what, c.l, c.e)
		tells(t, c.what, c.l, c.next, c.heads)
		againstSlow(t, c.what, c.l)
	}
}

// P25.1: how segments end: all but the last one cleanly, that one in any way.
func TestEnds(t *testing.T) {
	for _, l := range grownAll() {
		for i := range l {
			for _, kind := range []int{math.MinInt, -1, 0, torn, 3, 1 << 32, 1<<32 + 1, math.MaxInt} {
				changed := copied(l)
				changed[i].Kind = kind
				if i == len(l)-1 {
					checks(t, "the last one", changed, api.OK)
				} else {
					checks(t, "not the last one", changed, api.ErrCorrupt)
				}
			}
		}
	}
}

// P25.2: what layers 22 and 23 write is loaded.
func TestBegunAndWritten(t *testing.T) {
	d := disk.New(60)
	var want []Segment
	for _, s := range grown(api.Header{Epoch: 3, Seq: 1, First: 1}, []int{0, 1, 1}, nil, []int{3, 0, 1}) {
		fine(t, segment.Begin(d, s.H))
		w := writer.New(d, s.H, nil, 0)
		want = append(want, seg(s.H))
		last := &want[len(want)-1]
		loads(t, "begun", d, want, api.OK)
		for _, r := range s.Recs {
			b, e := record.Encode(r)
			fine(t, e)
			at, e := w.Append(b)
			fine(t, e)
			last.Recs, last.Places, last.End = append(last.Recs, r), append(last.Places, at), w.End()
			loads(t, "written", d, want, api.OK)
		}
		fine(t, w.Sync())
		loads(t, "synced", d, want, api.OK)
	}
	if !slices.Equal(d.List(), strings.Fields("wal-1 wal-2 wal-3")) {
		t.Errorf("files %v", d.List())
	}
	tells(t, "all", want, 7, [4]int{5, 6, 0, 4})
}
