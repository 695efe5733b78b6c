package live

import (
	"math"
	"slices"
	"strings"

	"strandline/api"
	"strandline/disk"
)

// slowRight is what layer 18 says of a right header.
func slowRight(h api.Header) bool {
	if h.Epoch == 0 || h.Seq < 1 || h.Seq > mostLSN || h.First < 1 || h.First > mostLSN {
		return false
	}
	for c := range chains {
		if h.Heads[c] < 0 || h.Heads[c] >= h.First {
			return false
		}
	}
	return true
}

// slowCheck is what the chapter says of Check.
func slowCheck(l []Segment) api.Errno {
	for _, s := range l {
		if !slowRight(s.H) || len(s.Places) != len(s.Recs) {
			return api.ErrArg
		}
	}
	if !slowTogether(l) {
		return api.ErrCorrupt
	}
	return api.OK
}

// slowTogether is what the chapter says of segments that are right together: record by record, each chain's head is kept by its number.
func slowTogether(l []Segment) bool {
	for i, s := range l {
		lsn, head := s.H.First, map[int]int{0: s.H.Heads[0], 1: s.H.Heads[1], 2: s.H.Heads[2], 3: s.H.Heads[3]}
		for _, r := range s.Recs {
			was, is := head[r.Chain]
			if r.LSN != lsn || !is || was != r.Prev {
				return false
			}
			head[r.Chain] = lsn
			lsn++
		}
		if i == len(l)-1 {
			return true
		}
		h := l[i+1].H
		if h.Seq-s.H.Seq != 1 || h.Epoch <= s.H.Epoch || h.First != lsn || s.Kind != clean {
			return false
		}
		for c, was := range head {
			if h.Heads[c] != was {
				return false
			}
		}
	}
	return true
}

// slowNext is what the chapter says of Next: segment by segment, record by record.
func slowNext(l []Segment) int {
	next := 1
	for _, s := range l {
		next = s.H.First
		for _, r := range s.Recs {
			next = r.LSN + 1
		}
	}
	return next
}

// slowHeads is what the chapter says of Heads: chain by chain, from the last record back.
func slowHeads(l []Segment) [chains]int {
	var heads [chains]int
	if len(l) == 0 {
		return heads
	}
	s := l[len(l)-1]
	for c := range chains {
		heads[c] = s.H.Heads[c]
		for i := len(s.Recs) - 1; i >= 0; i-- {
			if s.Recs[i].Chain == c {
				heads[c] = s.Recs[i].LSN
				break
			}
		}
	}
	return heads
}

// sum is the masked sum of b: layer 3's words, bit by bit.
func sum(b []byte) uint32 {
	s := uint32(math.MaxUint32)
	for _, x := range b {
		s ^= uint32(x)
		for range 8 {
			low := s & 1
			s >>= 1
			if low == 1 {
				s ^= 0x82f63b78
			}
		}
	}
	s ^= math.MaxUint32
	return s>>15 + s<<17 + 0xa282ead8
}

// low are a number's first bytes, the lowest one first.
func low(n uint64, count int) []byte {
	var b []byte
	for range count {
		b = append(b, byte(n))
		n >>= 8
	}
	return b
}

// short are a number's short bytes: layer 2's words.
func short(n uint64) []byte {
	b := []byte{byte(n % 128)}
	for n /= 128; n > 0; n /= 128 {
		b[len(b)-1] += 128
		b = append(b, byte(n%128))
	}
	return b
}

// bytesOf are a record's bytes: layer 11's words.
func bytesOf(r api.Rec) []byte {
	return slices.Concat([]byte{byte(r.Kind), byte(r.Chain)}, short(uint64(r.LSN)), short(uint64(r.LSN-r.Prev)), r.Data)
}

// slowRec is the record whose bytes b is, if it is one's: the right one that has b as its bytes.
func slowRec(b []byte) (api.Rec, bool) {
	if len(b) > longest || len(b) < 2 {
		return api.Rec{}, false
	}
	at := 2
	next := func() int {
		n := uint64(0)
		for shift := 0; at < len(b) && shift < 70; shift += 7 {
			n |= uint64(b[at]&127) << shift
			at++
			if b[at-1] < 128 {
				break
			}
		}
		return int(min(n, mostLSN+1))
	}
	r := api.Rec{Kind: int(b[0]), Chain: int(b[1]), LSN: next()}
	r.Prev = r.LSN - next()
	r.Data = b[at:]
	right := r.Kind >= 1 && r.Kind <= 9 && r.Chain < chains && r.LSN >= 1 && r.LSN <= mostLSN && r.Prev >= 0 && r.Prev < r.LSN
	if !right || !slices.Equal(bytesOf(r), b) {
		return api.Rec{}, false
	}
	return r, true
}

// fragment is a fragment's bytes: layer 13's words, byte by byte.
func fragment(kind int, epoch uint64, data []byte) []byte {
	b := slices.Concat(low(uint64(len(data)), 2), []byte{byte(kind)}, low(epoch, 4), data)
	return append(low(uint64(sum(b)), 4), b...)
}

// begin is where a fragment goes on: layer 7's words, place by place.
func begin(at int) int {
	for at < all && room-at%room < head {
		at++
	}
	return at
}

// piece is where one begins, its Kind, and which of the record's bytes it has.
type piece struct{ at, kind, from, to int }

// pieces are those of a record of n bytes, and the place behind the last one: layer 14's words, byte by byte.
func pieces(at, n int) ([]piece, int, bool) {
	var l []piece
	had := 0
	for len(l) == 0 || had < n {
		p := piece{at: begin(at), kind: 3, from: had}
		if p.at == all {
			return nil, 0, false
		}
		at = p.at + head
		for had < n && at%block != 0 {
			at++
			had++
		}
		p.to = had
		l = append(l, p)
	}
	l[0].kind = 2
	l[len(l)-1].kind = 4
	if len(l) == 1 {
		l[0].kind = 1
	}
	return l, at, true
}

// stampOf are the first bytes of a sector that is stamped so: layer 6's words.
func stampOf(epoch uint64, i int) []byte {
	return append(low(epoch, 8), low(uint64(i), 4)...)
}

// stamped is a sector with that stamp, and this room.
func stamped(epoch uint64, i int, room []byte) api.Sec {
	var s api.Sec
	copy(s[:], stampOf(epoch, i))
	copy(s[ahead:], room)
	return s
}

// sealed are the sectors of a body: those that have a place below end, the others empty.
func sealed(epoch uint64, body []byte, end int) []api.Sec {
	l := make([]api.Sec, sectors)
	for i := range l {
		if room*i < end {
			l[i] = stamped(epoch, i, body[room*i:room*i+room])
		}
	}
	return l
}

// scanned is what sectors have.
type scanned struct {
	recs      [][]byte
	places    []int
	end, kind int
}

// slowScan is what layer 19 says of sectors: fragment by fragment, byte by byte.
func slowScan(epoch uint64, l []api.Sec) scanned {
	b, is := make([]byte, all), make([]bool, all)
	for i, s := range l {
		if slices.Equal(s[:ahead], stampOf(epoch, i)) {
			for k := range room {
				b[room*i+k], is[room*i+k] = s[ahead+k], true
			}
		}
	}
	r := scanned{kind: clean}
	for {
		rec, behind, ok := slowFrom(epoch, b, is, begin(r.end))
		if !ok {
			break
		}
		r.recs, r.places, r.end = append(r.recs, rec), append(r.places, begin(r.end)), behind
	}
	for i, s := range l {
		if room*i >= r.end && s != (api.Sec{}) {
			r.kind = torn
		}
	}
	for _, x := range b[r.end:] {
		if x != 0 {
			r.kind = torn
		}
	}
	return r
}

// slowFrom is the record whose first fragment is told at a place, and the place behind it.
func slowFrom(epoch uint64, b []byte, is []bool, at int) ([]byte, int, bool) {
	var had []byte
	for first := true; ; first = false {
		kind, data := slowFragment(epoch, b, is, at)
		if kind == 0 || first != (kind < 3) || len(had)+len(data) > longest {
			return nil, 0, false
		}
		had, at = append(had, data...), at+head+len(data)
		if kind == 1 || kind == 4 {
			return had, at, true
		}
		at = begin(at)
	}
}

// slowFragment is the Kind and the Data of the fragment that is told at a place: layers 13's and 19's words; 0, if there is none.
func slowFragment(epoch uint64, b []byte, is []bool, at int) (int, []byte) {
	to := at
	for to < all && to/block == at/block {
		to++
	}
	if to-at < head {
		return 0, nil
	}
	count, kind := int(b[at+4])+256*int(b[at+5]), int(b[at+6])
	if kind < 1 || kind > 4 || at+head+count > to {
		return 0, nil
	}
	data := b[at+head : at+head+count]
	for i, x := range fragment(kind, epoch, data) {
		if b[at+i] != x || !is[at+i] {
			return 0, nil
		}
	}
	return kind, data
}

// slowSector is a header's sector, byte by byte as layer 18's words tell it.
func slowSector(h api.Header) api.Sec {
	l := slices.Concat([]byte("strd\x01"), low(h.Epoch, 8), low(uint64(h.Seq), 4), low(uint64(h.First), 4))
	for _, n := range h.Heads {
		l = append(l, low(uint64(n), 4)...)
	}
	var s api.Sec
	copy(s[:], append(l, low(uint64(sum(l)), 4)...))
	return s
}

// slowTold is the header whose sector s is, if it is one's: the right one that has s as its sector.
func slowTold(s api.Sec) (api.Header, bool) {
	number := func(at, width int) uint64 {
		n := uint64(0)
		for i := range width {
			n |= uint64(s[at+i]) << (8 * i)
		}
		return n
	}
	h := api.Header{Epoch: number(5, 8), Seq: int(number(13, 4)), First: int(number(17, 4))}
	for c := range chains {
		h.Heads[c] = int(number(21+4*c, 4))
	}
	if !slowRight(h) || slowSector(h) != s {
		return api.Header{}, false
	}
	return h, true
}

// slowLive is a number's live name, digit by digit; nothing, if it has none.
func slowLive(seq int) string {
	if seq < 1 || seq > mostLSN {
		return ""
	}
	digits := ""
	for n := seq; n > 0; n /= 10 {
		digits = string([]byte{byte('0' + n%10)}) + digits
	}
	return "wal-" + digits
}

// slowSeq is the number that has that live name; 0, if none has.
func slowSeq(name string) int {
	n := 0
	for _, x := range []byte(strings.TrimPrefix(name, "wal-")) {
		n = min(10*n+int(x)-'0', mostLSN+1)
	}
	if n > 0 && slowLive(n) == name {
		return n
	}
	return 0
}

// slowSeen are a disk's files, as they are seen: a crash that keeps all has them lasting.
func slowSeen(d *disk.Disk) []api.File {
	c := d.Clone()
	c.Crash(api.Crash{Keep: ones(d.Waiting()), Torn: -1})
	return c.Files()
}

// slowLoad is what the chapter says of Load.
func slowLoad(d *disk.Disk) ([]Segment, api.Errno) {
	if d == nil {
		return nil, api.ErrState
	}
	if d.Down() {
		return nil, api.ErrDown
	}
	segments := map[int]Segment{}
	var rising []int
	for _, f := range slowSeen(d) {
		seq := slowSeq(f.Name)
		if seq == 0 {
			continue
		}
		s, ok := slowSegment(seq, f.L)
		if !ok {
			return nil, api.ErrCorrupt
		}
		segments[seq] = s
		at := 0
		for at < len(rising) && rising[at] < seq {
			at++
		}
		rising = slices.Insert(rising, at, seq)
	}
	var l []Segment
	for _, seq := range rising {
		l = append(l, segments[seq])
	}
	if !slowTogether(l) {
		return nil, api.ErrCorrupt
	}
	return l, api.OK
}

// slowSegment is the segment of that number that a file's sectors are; false, if they are none, or a record's bytes are none.
func slowSegment(seq int, l []api.Sec) (Segment, bool) {
	if len(l) != whole {
		return Segment{}, false
	}
	h, ok := slowTold(l[0])
	if !ok || h.Seq != seq {
		return Segment{}, false
	}
	r := slowScan(h.Epoch, l[1:])
	s := Segment{H: h, Places: r.places, End: r.end, Kind: r.kind}
	for _, b := range r.recs {
		rec, ok := slowRec(b)
		if !ok {
			return Segment{}, false
		}
		s.Recs = append(s.Recs, rec)
	}
	return s, true
}
