package stamp

import (
	"math"
	"slices"
	"testing"

	"strandline/api"
)

// A sector's bytes, as they are told in no code but here.
const (
	sector = 64
	head   = 12
	room   = 52
)

// round is how many indexes there are, till one has the lowest 32 bits of another.
const round = 1 << 32

// number is one with the bytes it has in a stamp, as they stand in no code but here.
type number[N uint64 | int] struct {
	n     N
	bytes []byte
}

// epochs are some of all lengths, 0 and the greatest one among them, with their eight bytes.
func epochs() []number[uint64] {
	return []number[uint64]{
		{0, []byte{0, 0, 0, 0, 0, 0, 0, 0}},
		{1, []byte{1, 0, 0, 0, 0, 0, 0, 0}},
		{3, []byte{3, 0, 0, 0, 0, 0, 0, 0}},
		{255, []byte{255, 0, 0, 0, 0, 0, 0, 0}},
		{256, []byte{0, 1, 0, 0, 0, 0, 0, 0}},
		{258, []byte{2, 1, 0, 0, 0, 0, 0, 0}},
		{math.MaxInt32, []byte{255, 255, 255, 127, 0, 0, 0, 0}},
		{math.MaxUint32, []byte{255, 255, 255, 255, 0, 0, 0, 0}},
		{math.MaxUint32 + 1, []byte{0, 0, 0, 0, 1, 0, 0, 0}},
		{0x0102030405060708, []byte{8, 7, 6, 5, 4, 3, 2, 1}},
		{math.MaxInt64, []byte{255, 255, 255, 255, 255, 255, 255, 127}},
		{1 << 63, []byte{0, 0, 0, 0, 0, 0, 0, 128}},
		{math.MaxUint64 - 1, []byte{254, 255, 255, 255, 255, 255, 255, 255}},
		{math.MaxUint64, []byte{255, 255, 255, 255, 255, 255, 255, 255}},
	}
}

// indexes are small ones, some below 0, around 2^31 and 2^32, and the least and the greatest int, with their four bytes.
func indexes() []number[int] {
	return []number[int]{
		{0, []byte{0, 0, 0, 0}},
		{1, []byte{1, 0, 0, 0}},
		{2, []byte{2, 0, 0, 0}},
		{15, []byte{15, 0, 0, 0}},
		{16, []byte{16, 0, 0, 0}},
		{255, []byte{255, 0, 0, 0}},
		{256, []byte{0, 1, 0, 0}},
		{0x01020304, []byte{4, 3, 2, 1}},
		{math.MaxInt32, []byte{255, 255, 255, 127}},
		{math.MaxInt32 + 1, []byte{0, 0, 0, 128}},
		{round - 2, []byte{254, 255, 255, 255}},
		{round - 1, []byte{255, 255, 255, 255}},
		{round, []byte{0, 0, 0, 0}},
		{round + 1, []byte{1, 0, 0, 0}},
		{0x0102030405060708, []byte{8, 7, 6, 5}},
		{math.MaxInt - 1, []byte{254, 255, 255, 255}},
		{math.MaxInt, []byte{255, 255, 255, 255}},
		{-1, []byte{255, 255, 255, 255}},
		{-2, []byte{254, 255, 255, 255}},
		{-256, []byte{0, 255, 255, 255}},
		{math.MinInt32, []byte{0, 0, 0, 128}},
		{-round + 1, []byte{1, 0, 0, 0}},
		{-round, []byte{0, 0, 0, 0}},
		{-round - 1, []byte{255, 255, 255, 255}},
		{math.MinInt + 1, []byte{1, 0, 0, 0}},
		{math.MinInt, []byte{0, 0, 0, 0}},
	}
}

// rooms are none, empty ones, and such of one byte, of all but one, of all, of one more and of many more; all 0, all 255, and mixed.
func rooms() [][]byte {
	l := [][]byte{nil, {}}
	for _, size := range []int{1, 2, room - 1, room, room + 1, room + head, sector + 1, 2 * room, 1000, 1 << 20} {
		l = append(l, make([]byte, size), slices.Repeat([]byte{255}, size), text(size))
	}
	return l
}

// scatter tells numbers that look like any, the same ones in each run.
func scatter(count int) []uint64 {
	var l []uint64
	n := uint64(88172645463325252)
	for range count {
		n ^= n << 13
		n ^= n >> 7
		n ^= n << 17
		l = append(l, n)
	}
	return l
}

// text tells so many bytes that look like any, none of them 0, the same ones in each run.
func text(size int) []byte {
	b := make([]byte, size)
	for i, n := range scatter(size) {
		b[i] = byte(n>>32)%255 + 1
	}
	return b
}

// anySectors are sectors of all bytes: all 0, all 255, each bit alone, each one lacking, and many that look like any.
func anySectors() []api.Sec {
	var none, full api.Sec
	for i := range full {
		full[i] = 255
	}
	l := []api.Sec{none, full}
	for i := range sector {
		for bit := range 8 {
			l = append(l, turned(none, i, bit), turned(full, i, bit))
		}
	}
	return append(l, laid(text(1000*sector))...)
}

// laid are the sectors of b, byte by byte; what is missing is 0.
func laid(b []byte) []api.Sec {
	var l []api.Sec
	for i, x := range b {
		if i%sector == 0 {
			l = append(l, api.Sec{})
		}
		l[i/sector][i%sector] = x
	}
	return l
}

// turned is s with one bit of its byte i turned.
func turned(s api.Sec, i, bit int) api.Sec {
	s[i] ^= 1 << bit
	return s
}

// filled is b as a sector's room has it, byte by byte.
func filled(b []byte) []byte {
	full := make([]byte, room)
	for i := range full {
		if i < len(b) {
			full[i] = b[i]
		}
	}
	return full
}

// slowNumber is the number that has those bytes, by multiplication.
func slowNumber(b []byte) uint64 {
	var n uint64
	for _, x := range slices.Backward(b) {
		n = n*256 + uint64(x)
	}
	return n
}

// roomy is b, with bytes behind its end that are not its own.
func roomy(b []byte) []byte {
	return append(slices.Clone(b), text(200)...)[:len(b)]
}

// spoil turns all bits of b, and of the room behind its end.
func spoil(b []byte) {
	for i := range b[:cap(b)] {
		b[:cap(b)][i] ^= 255
	}
}

// spoilSecs turns all bits of l's sectors, and of the room behind its end.
func spoilSecs(l []api.Sec) {
	for i := range l[:cap(l)] {
		spoil(l[:cap(l)][i][:])
	}
}

// The chapter's example, and the limits.
func TestExample(t *testing.T) {
	x := []byte{1, 2, 3}
	if got, ok := Open(Seal(3, 1, x), 3, 2); got != nil || ok {
		t.Errorf("Open of Seal(3, 1, x) by 3 and 2 = %v, %v", got, ok)
	}
	if got, ok := Open(Seal(3, 1, x), 3, 1); !slices.Equal(got, filled(x)) || !ok {
		t.Errorf("Open of Seal(3, 1, x) by 3 and 1 = %v, %v", got, ok)
	}
	if api.Sector != sector || api.Stamp != head || api.Room != room {
		t.Errorf("Sector, Stamp, Room = %d, %d, %d", api.Sector, api.Stamp, api.Room)
	}
}

// P6.1: Seal by each epoch and index, of each length of room: the epoch's bytes, the index's, the room's, and 0.
func TestSeal(t *testing.T) {
	all := rooms()
	for _, e := range epochs() {
		for _, i := range indexes() {
			for _, r := range all {
				got := Seal(e.n, i.n, r)
				if want := slices.Concat(e.bytes, i.bytes, filled(r)); !slices.Equal(got[:], want) {
					t.Fatalf("Seal(%d, %d, %d bytes) = %v, want %v", e.n, i.n, len(r), got, want)
				}
			}
		}
	}
}

// P6.1: a whole sector, written out.
func TestSealWrittenOut(t *testing.T) {
	want := api.Sec{
		8, 7, 6, 5, 4, 3, 2, 1,
		12, 11, 10, 9,
		97, 98, 99, 0, 100,
	}
	if got := Seal(0x0102030405060708, 0x090a0b0c, []byte{97, 98, 99, 0, 100}); got != want {
		t.Errorf("Seal = %v, want %v", got, want)
	}
}

// P6.1: each byte of epoch, index and room stands at its own place of the sector, and nowhere else.
func TestSealPlaces(t *testing.T) {
	for place := range sector {
		for x := 1; x < 256; x++ {
			var epoch uint64
			var index int
			var r [room]byte
			switch {
			case place < 8:
				epoch = uint64(x) << (8 * place)
			case place < head:
				index = x << (8 * (place - 8))
			default:
				r[place-head] = byte(x)
			}
			want := api.Sec{}
			want[place] = byte(x)
			if got := Seal(epoch, index, r[:]); got != want {
				t.Fatalf("Seal with the byte %d at %d = %v", x, place, got)
			}
		}
	}
}

// P6.1: no room, an empty one, and bytes 0 are sealed alike; so is what is cut off at Room, and what lies behind it plays no part.
func TestSealAlike(t *testing.T) {
	for _, l := range [][][]byte{
		{nil, {}, {0}, make([]byte, room-1), make([]byte, room), make([]byte, room+1), make([]byte, 1000), append(make([]byte, room), 1), append(make([]byte, room), text(100)...)},
		{{7}, {7, 0}, append([]byte{7}, make([]byte, room-1)...), append([]byte{7}, make([]byte, room)...)},
		{text(room), text(room + 1), text(1 << 16), append(text(room), make([]byte, 9)...)},
	} {
		for _, r := range l {
			if got, want := Seal(5, 6, r), Seal(5, 6, l[0]); got != want {
				t.Errorf("Seal of %d bytes = %v, want %v", len(r), got, want)
			}
		}
	}
}

// P6.1: each length of room up to some.
func TestSealLengths(t *testing.T) {
	whole := text(200)
	for n := range whole {
		got := Seal(1, 2, whole[:n])
		for i, x := range got[head:] {
			if i < n && x != whole[i] || i >= n && x != 0 {
				t.Fatalf("Seal of %d bytes has %d at %d of its room", n, x, i)
			}
		}
	}
}

// P6.1: the room that is sealed, and what lies behind its end, is neither changed, kept nor looked at.
func TestSealKeepsNothing(t *testing.T) {
	for _, b := range rooms() {
		r := roomy(b)
		whole := slices.Clone(r[:cap(r)])
		first, second := Seal(7, 8, r), Seal(7, 8, r)
		spoil(first[:])
		if !slices.Equal(r[:cap(r)], whole) {
			t.Fatalf("Seal of %d bytes changed or shares what it was given", len(b))
		}
		spoil(r)
		if !slices.Equal(second[head:], filled(b)) {
			t.Fatalf("Seal of %d bytes: the answer became another one", len(b))
		}
	}
}

// P6.1: Open by the sector's own epoch and index, and by each other one of them, as bytes tell it.
func TestOpen(t *testing.T) {
	for _, e := range epochs() {
		for _, i := range indexes() {
			s := Seal(e.n, i.n, text(room))
			for _, e2 := range epochs() {
				for _, i2 := range indexes() {
					own := slices.Equal(e.bytes, e2.bytes) && slices.Equal(i.bytes, i2.bytes)
					got, ok := Open(s, e2.n, i2.n)
					if ok != own || ok && !slices.Equal(got, text(room)) || !ok && got != nil {
						t.Fatalf("Open of %d, %d by %d, %d = %v, %v", e.n, i.n, e2.n, i2.n, got, ok)
					}
				}
			}
		}
	}
}

// P6.1: with any one bit of the epoch, or of the lowest 32 of the index, another one, it isn't opened; with a higher one of the index it is.
func TestOpenByOneBit(t *testing.T) {
	for _, e := range epochs() {
		for _, i := range indexes() {
			s := Seal(e.n, i.n, []byte{9})
			for bit := range 64 {
				if got, ok := Open(s, e.n^1<<bit, i.n); got != nil || ok {
					t.Fatalf("Open of %d, %d with the epoch's bit %d turned = %v, %v", e.n, i.n, bit, got, ok)
				}
				got, ok := Open(s, e.n, int(uint64(i.n)^1<<bit))
				if high := bit >= 32; ok != high || high && !slices.Equal(got, filled([]byte{9})) || !high && got != nil {
					t.Fatalf("Open of %d, %d with the index's bit %d turned = %v, %v", e.n, i.n, bit, got, ok)
				}
			}
		}
	}
}

// P6.1: an index that differs by a multiple of 2^32 opens; one beside it doesn't.
func TestOpenByRounds(t *testing.T) {
	for _, index := range []int{0, 1, 15, round - 1} {
		s := Seal(3, index, text(room))
		for _, rounds := range []int{-math.MaxInt32, -1 << 16, -2, -1, 1, 2, 3, 1 << 16, math.MaxInt32 - 1} {
			if got, ok := Open(s, 3, index+rounds*round); !slices.Equal(got, text(room)) || !ok {
				t.Errorf("Open of the index %d, %d rounds on, = %v, %v", index, rounds, got, ok)
			}
			for _, off := range []int{-2, -1, 1, 2} {
				if got, ok := Open(s, 3, index+rounds*round+off); got != nil || ok {
					t.Errorf("Open of the index %d, %d rounds and %d on, = %v, %v", index, rounds, off, got, ok)
				}
			}
		}
	}
}

// P6.1: the empty sector is stamped with 0 and 0, and is opened by these alone.
func TestOpenOfEmpty(t *testing.T) {
	for _, c := range []struct {
		epoch uint64
		index int
		ok    bool
	}{
		{0, 0, true},
		{0, round, true},
		{0, -round, true},
		{0, math.MinInt, true},
		{0, 1, false},
		{0, -1, false},
		{0, round - 1, false},
		{0, math.MaxInt, false},
		{1, 0, false},
		{1, 1, false},
		{256, 0, false},
		{round, 0, false},
		{1 << 63, 0, false},
		{math.MaxUint64, 0, false},
	} {
		got, ok := Open(api.Sec{}, c.epoch, c.index)
		if ok != c.ok || ok && !slices.Equal(got, make([]byte, room)) || !ok && got != nil {
			t.Errorf("Open of the empty sector by %d, %d = %v, %v, want %v", c.epoch, c.index, got, ok, c.ok)
		}
	}
}

// P6.1: any sector is opened by what its first bytes tell, and by nothing near it.
func TestOpenOfAny(t *testing.T) {
	for _, s := range anySectors() {
		epoch, index := slowNumber(s[:8]), int(slowNumber(s[8:head]))
		if got, ok := Open(s, epoch, index); !slices.Equal(got, s[head:]) || !ok {
			t.Fatalf("Open of %v = %v, %v", s, got, ok)
		}
		for _, c := range []struct {
			epoch uint64
			index int
		}{{epoch + 1, index}, {epoch - 1, index}, {epoch ^ 1<<63, index}, {epoch, index + 1}, {epoch, index - 1}, {epoch, ^index}, {^epoch, index}} {
			if got, ok := Open(s, c.epoch, c.index); got != nil || ok {
				t.Fatalf("Open of %v by %d, %d = %v, %v", s, c.epoch, c.index, got, ok)
			}
		}
	}
}

// P6.1: with any one bit of its stamp turned a sector isn't opened any more; with one of its room it is, and tells that room.
func TestOpenOfChanged(t *testing.T) {
	s := Seal(3, 1, text(room))
	for i := range sector {
		for bit := range 8 {
			changed := turned(s, i, bit)
			got, ok := Open(changed, 3, 1)
			if ok != (i >= head) || ok && !slices.Equal(got, changed[head:]) || !ok && got != nil {
				t.Fatalf("Open with the bit %d of the byte %d turned = %v, %v", bit, i, got, ok)
			}
		}
	}
}

// P6.1: Read of any bytes, and Seal of what was read.
func TestRead(t *testing.T) {
	for _, s := range anySectors() {
		epoch, index, r := Read(s)
		if epoch != slowNumber(s[:8]) || index < 0 || uint64(index) != slowNumber(s[8:head]) || !slices.Equal(r, s[head:]) {
			t.Fatalf("Read(%v) = %d, %d, %v", s, epoch, index, r)
		}
		if got := Seal(epoch, index, r); got != s {
			t.Fatalf("Seal of what was read of %v = %v", s, got)
		}
	}
}

// P6.1: Read of what was sealed: the epoch, the index modulo 2^32, and the room with 0 behind it.
func TestReadOfSealed(t *testing.T) {
	all := rooms()
	for _, e := range epochs() {
		for _, i := range indexes() {
			for _, r := range all {
				epoch, index, got := Read(Seal(e.n, i.n, r))
				if want := (i.n%round + round) % round; epoch != e.n || index != want || !slices.Equal(got, filled(r)) {
					t.Fatalf("Read of Seal(%d, %d, %d bytes) = %d, %d, %v", e.n, i.n, len(r), epoch, index, got)
				}
			}
		}
	}
}

// P6.1: what Open and Read answer is new memory each time, and the sector is as it was.
func TestOpenedIsNew(t *testing.T) {
	for _, s := range anySectors()[:200] {
		was := s
		epoch, index, first := Read(s)
		_, _, second := Read(s)
		third, _ := Open(s, epoch, index)
		fourth, _ := Open(s, epoch, index)
		for _, r := range [][]byte{first, third} {
			spoil(r)
			_ = append(r, 9, 9, 9)
		}
		if s != was {
			t.Fatalf("Read or Open of %v changed it", was)
		}
		spoil(s[:])
		if !slices.Equal(second, was[head:]) || !slices.Equal(fourth, was[head:]) {
			t.Fatalf("an answer of Read or Open of %v became another one", was)
		}
	}
}

// P6.1: the empty sector is empty; none with a byte that isn't 0 is, wherever it stands.
func TestEmpty(t *testing.T) {
	if !Empty(api.Sec{}) {
		t.Error("the empty sector isn't empty")
	}
	for i := range sector {
		for x := 1; x < 256; x++ {
			s := api.Sec{}
			s[i] = byte(x)
			if Empty(s) {
				t.Fatalf("empty with the byte %d at %d", x, i)
			}
			s[(i+17)%sector] = byte(x)
			if Empty(s) {
				t.Fatalf("empty with the byte %d at %d and %d", x, i, (i+17)%sector)
			}
		}
	}
	for _, s := range anySectors()[1:] {
		if Empty(s) {
			t.Fatalf("%v is empty", s)
		}
	}
}

// P6.1: what is sealed is empty just by the epoch 0, the index 0, or one with its bits, and no room but bytes 0.
func TestEmptyOfSealed(t *testing.T) {
	all := rooms()
	for _, e := range epochs() {
		for _, i := range indexes() {
			for _, r := range all {
				want := e.n == 0 && i.n%round == 0 && !slices.ContainsFunc(filled(r), func(x byte) bool { return x != 0 })
				if got := Empty(Seal(e.n, i.n, r)); got != want {
					t.Fatalf("Empty of Seal(%d, %d, %d bytes) = %v", e.n, i.n, len(r), got)
				}
			}
		}
	}
}

// P6.2: Bytes of no sectors, of one, and of several, one behind the other.
func TestBytes(t *testing.T) {
	a, b, c := Seal(1, 2, []byte("ab")), api.Sec{}, Seal(math.MaxUint64, -1, text(room))
	for _, l := range []struct {
		l    []api.Sec
		want []byte
	}{
		{nil, nil},
		{[]api.Sec{}, nil},
		{[]api.Sec{a}, a[:]},
		{[]api.Sec{b}, make([]byte, sector)},
		{[]api.Sec{a, b}, slices.Concat(a[:], b[:])},
		{[]api.Sec{b, a}, slices.Concat(b[:], a[:])},
		{[]api.Sec{a, a}, slices.Concat(a[:], a[:])},
		{[]api.Sec{a, b, c}, slices.Concat(a[:], b[:], c[:])},
		{[]api.Sec{c, c, b, a, b}, slices.Concat(c[:], c[:], b[:], a[:], b[:])},
	} {
		if got := Bytes(l.l); !slices.Equal(got, l.want) {
			t.Errorf("Bytes of %d sectors = %v, want %v", len(l.l), got, l.want)
		}
	}
	all := anySectors()
	got := Bytes(all)
	if len(got) != len(all)*sector {
		t.Fatalf("Bytes of %d sectors are %d", len(all), len(got))
	}
	for i, x := range got {
		if want := all[i/sector][i%sector]; x != want {
			t.Fatalf("Bytes has %d at %d, want %d", x, i, want)
		}
	}
}

// P6.2: Secs at the bounds of each count of sectors.
func TestSecs(t *testing.T) {
	for _, c := range []struct{ size, count int }{
		{0, 0},
		{1, 1},
		{2, 1},
		{head, 1},
		{room, 1},
		{sector - 1, 1},
		{sector, 1},
		{sector + 1, 2},
		{2*sector - 1, 2},
		{2 * sector, 2},
		{2*sector + 1, 3},
		{17*sector - 1, 17},
		{17 * sector, 17},
		{17*sector + 1, 18},
		{1 << 20, 1 << 14},
		{1<<20 + 1, 1<<14 + 1},
	} {
		b := text(c.size)
		got := Secs(b)
		if len(got) != c.count {
			t.Fatalf("Secs of %d bytes are %d, want %d", c.size, len(got), c.count)
		}
		for i := range c.count * sector {
			want := byte(0)
			if i < c.size {
				want = b[i]
			}
			if x := got[i/sector][i%sector]; x != want {
				t.Fatalf("Secs of %d bytes has %d at %d, want %d", c.size, x, i, want)
			}
		}
	}
	if got := Secs(nil); len(got) != 0 {
		t.Errorf("Secs(nil) = %v", got)
	}
	if got := Secs([]byte{0}); !slices.Equal(got, []api.Sec{{}}) {
		t.Errorf("Secs(0) = %v", got)
	}
}

// P6.2: Secs of each length up to some: as few as there may be, the last one filled with 0, of bytes 0 too.
func TestSecsOfLengths(t *testing.T) {
	whole := text(400)
	for n := range whole {
		if got, want := Secs(whole[:n]), laid(whole[:n]); !slices.Equal(got, want) {
			t.Fatalf("Secs of %d bytes = %v, want %v", n, got, want)
		}
		if got, want := Secs(make([]byte, n)), make([]api.Sec, (n+sector-1)/sector); !slices.Equal(got, want) {
			t.Fatalf("Secs of %d bytes 0 = %v", n, got)
		}
	}
}

// P6.2: Bytes of Secs are the bytes, and 0 behind them up to the sector's end; Secs of Bytes are the sectors.
func TestBytesAndSecs(t *testing.T) {
	whole := text(1000)
	for n := range whole {
		b := whole[:n]
		behind := make([]byte, (sector-n%sector)%sector)
		if got, want := Bytes(Secs(b)), slices.Concat(b, behind); !slices.Equal(got, want) {
			t.Fatalf("Bytes of Secs of %d bytes are %d, want %d", n, len(got), len(want))
		}
	}
	all := anySectors()
	for n := range all {
		near := all[n:min(n+n%7, len(all))]
		if got := Secs(Bytes(near)); !slices.Equal(got, near) {
			t.Fatalf("Secs of Bytes of %d sectors are %d, or others", len(near), len(got))
		}
	}
	if got := Secs(Bytes(all)); !slices.Equal(got, all) {
		t.Fatalf("Secs of Bytes of %d sectors are %d, or others", len(all), len(got))
	}
}

// P6.2: Bytes neither changes, keeps nor looks at more than the list, and its answer is new memory.
func TestBytesIsNew(t *testing.T) {
	for _, n := range []int{0, 1, 2, 9} {
		want := text(n * sector)
		l := append(laid(want), anySectors()[1:9]...)[:n]
		whole := slices.Clone(l[:cap(l)])
		first, second := Bytes(l), Bytes(l)
		spoil(first)
		_ = append(first, 9, 9, 9)
		if !slices.Equal(l[:cap(l)], whole) {
			t.Fatalf("Bytes of %d sectors changed or shares what it was given", n)
		}
		spoilSecs(l)
		if !slices.Equal(second, want) {
			t.Fatalf("Bytes of %d sectors: the answer became another one", n)
		}
	}
}

// P6.2: Secs neither changes, keeps nor looks at more than the bytes, and its answer is new memory.
func TestSecsIsNew(t *testing.T) {
	for _, n := range []int{0, 1, sector - 1, sector, sector + 1, 5*sector + 7} {
		want := laid(text(n))
		b := roomy(text(n))
		whole := slices.Clone(b[:cap(b)])
		first, second := Secs(b), Secs(b)
		spoilSecs(first)
		if !slices.Equal(b[:cap(b)], whole) {
			t.Fatalf("Secs of %d bytes changed or shares what it was given", n)
		}
		spoil(b)
		if !slices.Equal(second, want) {
			t.Fatalf("Secs of %d bytes: the answer became another one", n)
		}
	}
}

// P6.3: each sealed sector is opened by its own epoch and index to the room, through Bytes and Secs too.
func TestSealedIsOpened(t *testing.T) {
	numbers := scatter(3000)
	for k := range numbers[2:] {
		epoch, index := numbers[k]>>(k%64), int(numbers[k+1])>>(k/64%64)
		r := text(k%60 + k%7)
		s := Secs(Bytes([]api.Sec{{}, Seal(epoch, index, r)}))[1]
		if got, ok := Open(s, epoch, index); !slices.Equal(got, filled(r)) || !ok {
			t.Fatalf("Seal(%d, %d, %d bytes) is opened as %v, %v", epoch, index, len(r), got, ok)
		}
		other := numbers[k+2]>>(k%64) | 1
		if got, ok := Open(s, epoch^other, index); got != nil || ok {
			t.Fatalf("Seal(%d, %d, ..) is opened by the epoch %d", epoch, index, epoch^other)
		}
		if got, ok := Open(s, epoch, index^int(other)); got != nil || ok {
			t.Fatalf("Seal(%d, %d, ..) is opened by the index %d", epoch, index, index^int(other))
		}
	}
}

// P6.3: unlike rooms, by one bit at any place or wholly, make unlike sectors; so do unlike epochs and indexes.
func TestUnlikeSectors(t *testing.T) {
	seen := map[api.Sec]int{}
	count := 0
	add := func(epoch uint64, index int, r []byte) {
		seen[Seal(epoch, index, r)]++
		count++
	}
	full := text(room)
	add(3, 1, full)
	for i := range room {
		for bit := range 8 {
			changed := slices.Clone(full)
			changed[i] ^= 1 << bit
			add(3, 1, changed)
		}
		add(3, 1, full[:i])
	}
	for i, n := range scatter(2000) {
		add(3, 1, slices.Concat([]byte{byte(n), byte(n >> 8), byte(i), byte(i >> 8)}, full)[:room])
	}
	for epoch := range uint64(40) {
		for index := range 40 {
			add(1000+epoch, index, full)
			add(1000, round-1-index-int(epoch)*40, full)
		}
	}
	for s, n := range seen {
		if n != 1 {
			t.Fatalf("%d unlike ones make %v", n, s)
		}
	}
	if len(seen) != count || count < 5000 {
		t.Errorf("%d unlike ones make %d sectors", count, len(seen))
	}
}
