package name

import (
	"math"
	"slices"
	"strings"
	"testing"
)

// letters are all bytes that a name may have, as they stand in no code but here.
const letters = "abcdefghijklmnopqrstuvwxyz0123456789-"

// The bounds of numbers, as they stand in no code but here.
const (
	longest  = 24
	greatest = 2147483647
	pools    = 2
)

// scatter tells numbers that look like any, the same ones in each run.
func scatter(count int) []uint64 {
	var l []uint64
	n := uint64(88172645463325252)
	for range count {
		n ^= n << 13
		n ^= n >> 7
		n ^= n << 17
		l = append(l, n)
	}
	return l
}

// slowDigits are n's digits, by division, digit by digit: the least int can't be turned about.
func slowDigits(n int) string {
	if n == 0 {
		return "0"
	}
	digits, minus := "", ""
	if n < 0 {
		minus = "-"
	}
	for ; n != 0; n /= 10 {
		d := n % 10
		if d < 0 {
			d = -d
		}
		digits = "0123456789"[d:d+1] + digits
	}
	return minus + digits
}

// slowNumber is the number whose digits those are, up to the greatest one: byte by byte.
func slowNumber(digits string) (int, bool) {
	if digits == "" || digits[0] == '0' && digits != "0" {
		return 0, false
	}
	n := 0
	for i := range len(digits) {
		d := strings.IndexByte("0123456789", digits[i])
		if d < 0 {
			return 0, false
		}
		n = n*10 + d
		if n > greatest {
			return 0, false
		}
	}
	return n, true
}

// slowParse is what the chapter's words say of a name's kind.
func slowParse(name string) (int, int) {
	if len(name) >= 4 && name[:4] == "wal-" {
		if n, ok := slowNumber(name[4:]); ok && n >= 1 {
			return 1, n
		}
	}
	if len(name) >= 5 && name[:5] == "free-" {
		if n, ok := slowNumber(name[5:]); ok && n <= pools {
			return 2, n
		}
	}
	return 0, 0
}

// slowRight is what the chapter's words say of a name.
func slowRight(name string) bool {
	for i := range len(name) {
		if !strings.Contains(letters, name[i:i+1]) {
			return false
		}
	}
	return len(name) >= 1 && len(name) <= longest
}

// around are the numbers near each power of ten and of two, those near 0, and the least and the greatest ones, all of them below 0 too.
func around() []int {
	l := []int{0, math.MinInt, math.MinInt + 1, math.MaxInt, math.MaxInt - 1}
	for p := 1; ; p *= 10 {
		l = append(l, p-2, p-1, p, p+1, p+2, -p-1, -p, -p+1)
		if p > math.MaxInt/10 {
			break
		}
	}
	for k := range 63 {
		l = append(l, 1<<k-1, 1<<k, 1<<k+1, -1<<k-1, -1<<k, -1<<k+1)
	}
	return l
}

// texts are names, near ones and others: all of a few telling bytes, alone and behind the heads, and names with a byte changed, cut off or put in.
func texts() []string {
	l := []string{""}
	grown := []string{""}
	for range 6 {
		var next []string
		for _, s := range grown {
			for _, c := range []string{"0", "1", "2", "9", "-", "a"} {
				next = append(next, s+c)
			}
		}
		l, grown = append(l, next...), next
	}
	for _, head := range []string{"wal-", "free-", "wal", "free", "WAL-", "wal-wal-", "free-wal-", "wal-free-"} {
		for _, tail := range l[:1+6+36+216+1296] {
			l = append(l, head+tail)
		}
	}
	for i, n := range scatter(2000) {
		name := slices.Concat([]byte("wal-"), []byte(slowDigits(int(n>>33))))
		if i%4 == 0 {
			name = []byte("free-" + slowDigits(int(n%4)))
		}
		at := int(n>>8) % len(name)
		changed := slices.Clone(name)
		changed[at] = byte(n >> 20)
		l = append(l, string(name), string(changed), string(name[:at])+string(name[at+1:]),
			string(name[:at])+string([]byte{byte(n >> 24)})+string(name[at:]), string(name[:at]), string(name[at:]))
	}
	return l
}

// The chapter's example, and the kinds' numbers.
func TestExample(t *testing.T) {
	if kind, n := Parse("wal-12"); kind != Live || n != 12 {
		t.Errorf("Parse(wal-12) = %d, %d", kind, n)
	}
	if kind, n := Parse("wal-012"); kind != None || n != 0 {
		t.Errorf("Parse(wal-012) = %d, %d", kind, n)
	}
	if None != 0 || Live != 1 || Free != 2 {
		t.Errorf("None, Live, Free = %d, %d, %d", None, Live, Free)
	}
}

// P5.1: no bytes are no name, one is, MaxName are, one more are none; of whatever right bytes.
func TestRightLength(t *testing.T) {
	if Right("") {
		t.Error("no bytes are a name")
	}
	for i := range len(letters) {
		c := letters[i : i+1]
		for n := 1; n < 100; n++ {
			if got := Right(strings.Repeat(c, n)); got != (n <= longest) {
				t.Fatalf("Right of %d bytes %q = %v", n, c, got)
			}
		}
	}
	for _, n := range []int{longest, longest + 1, 256, 1 << 20} {
		if got := Right(strings.Repeat("wal-12", n)[:n]); got != (n <= longest) {
			t.Errorf("Right of %d bytes = %v", n, got)
		}
	}
}

// P5.1: of each byte alone.
func TestRightOfOneByte(t *testing.T) {
	count := 0
	for x := range 256 {
		name := string([]byte{byte(x)})
		if got := Right(name); got != strings.Contains(letters, name) {
			t.Errorf("Right of the byte %d = %v", x, got)
		} else if got {
			count++
		}
	}
	if count != 37 {
		t.Errorf("%d bytes are names, want 37", count)
	}
}

// P5.1: with one wrong byte first, among others, and last, nothing is a name; with a right one it is.
func TestRightWithOneByte(t *testing.T) {
	for x := range 256 {
		c := string([]byte{byte(x)})
		for _, n := range []int{2, 3, 7, longest} {
			for at := range n {
				name := strings.Repeat("a", at) + c + strings.Repeat("9", n-at-1)
				if got := Right(name); got != strings.Contains(letters, c) {
					t.Fatalf("Right(%q) = %v", name, got)
				}
			}
		}
	}
}

// P5.1: names of all kinds of bytes, and such as look right by their letters, not by their bytes.
func TestRightOfTexts(t *testing.T) {
	for _, c := range []struct {
		name string
		want bool
	}{
		{letters[:24], true},
		{letters[13:], true},
		{letters[12:], false},
		{"-", true},
		{"---", true},
		{"0", true},
		{"wal-12", true},
		{"wal-012", true},
		{"free-9", true},
		{"abcdefghijklmnopqrstuvwx", true},
		{"abcdefghijklmnopqrstuvwxy", false},
		{"a b", false},
		{" ", false},
		{"a_b", false},
		{"a.b", false},
		{"a/b", false},
		{"Wal-1", false},
		{"wal-1\n", false},
		{"wal-1\x00", false},
		{"\x00", false},
		{"\u00e4", false},
		{"wal\u20101", false},
		{"\u0661", false},
		{"a\xff", false},
	} {
		if got := Right(c.name); got != c.want {
			t.Errorf("Right(%q) = %v, want %v", c.name, got, c.want)
		}
	}
	for _, name := range texts() {
		if got := Right(name); got != slowRight(name) {
			t.Fatalf("Right(%q) = %v", name, got)
		}
	}
}

// P5.1: the live name of a number at its bounds and beyond them, and of the least and the greatest int.
func TestWal(t *testing.T) {
	for _, c := range []struct {
		seq  int
		want string
	}{
		{math.MinInt, ""},
		{-1 << 32, ""},
		{-1<<32 + 1, ""},
		{-greatest, ""},
		{-12, ""},
		{-1, ""},
		{0, ""},
		{1, "wal-1"},
		{2, "wal-2"},
		{9, "wal-9"},
		{10, "wal-10"},
		{12, "wal-12"},
		{100, "wal-100"},
		{999999999, "wal-999999999"},
		{1000000000, "wal-1000000000"},
		{2147483646, "wal-2147483646"},
		{2147483647, "wal-2147483647"},
		{2147483648, ""},
		{2147483649, ""},
		{1 << 32, ""},
		{1<<32 + 1, ""},
		{math.MaxInt - 1, ""},
		{math.MaxInt, ""},
	} {
		if got := Wal(c.seq); got != c.want {
			t.Errorf("Wal(%d) = %q, want %q", c.seq, got, c.want)
		}
	}
	for _, n := range around() {
		want := ""
		if n >= 1 && n <= greatest {
			want = "wal-" + slowDigits(n)
		}
		if got := Wal(n); got != want {
			t.Errorf("Wal(%d) = %q, want %q", n, got, want)
		}
	}
}

// P5.1: the free name of a number at its bounds and beyond them, and of the least and the greatest int.
func TestPool(t *testing.T) {
	for _, c := range []struct {
		k    int
		want string
	}{
		{math.MinInt, ""},
		{-1 << 32, ""},
		{-2, ""},
		{-1, ""},
		{0, "free-0"},
		{1, "free-1"},
		{2, "free-2"},
		{3, ""},
		{4, ""},
		{10, ""},
		{256, ""},
		{257, ""},
		{1 << 32, ""},
		{1<<32 + 1, ""},
		{math.MaxInt, ""},
	} {
		if got := Pool(c.k); got != c.want {
			t.Errorf("Pool(%d) = %q, want %q", c.k, got, c.want)
		}
	}
	for _, n := range around() {
		if got := Pool(n); n != 0 && n != 1 && n != 2 && got != "" {
			t.Errorf("Pool(%d) = %q", n, got)
		}
	}
}

// P5.1: the digits of 0, of small numbers, around each power of ten, below 0, and of the least and the greatest int.
func TestDigits(t *testing.T) {
	for _, c := range []struct {
		n    int
		want string
	}{
		{0, "0"},
		{1, "1"},
		{7, "7"},
		{9, "9"},
		{10, "10"},
		{11, "11"},
		{99, "99"},
		{100, "100"},
		{101, "101"},
		{1234567890, "1234567890"},
		{-1, "-1"},
		{-9, "-9"},
		{-10, "-10"},
		{-11, "-11"},
		{-99, "-99"},
		{-100, "-100"},
		{-1234567890, "-1234567890"},
		{2147483647, "2147483647"},
		{-2147483648, "-2147483648"},
		{4294967296, "4294967296"},
		{999999999999999999, "999999999999999999"},
		{1000000000000000000, "1000000000000000000"},
		{9223372036854775807, "9223372036854775807"},
		{-9223372036854775807, "-9223372036854775807"},
		{-9223372036854775808, "-9223372036854775808"},
	} {
		if got := Digits(c.n); got != c.want {
			t.Errorf("Digits(%d) = %q, want %q", c.n, got, c.want)
		}
	}
	for _, n := range around() {
		if got, want := Digits(n), slowDigits(n); got != want {
			t.Errorf("Digits(%d) = %q, want %q", n, got, want)
		}
	}
	for _, n := range scatter(5000) {
		n := int(n) >> (n % 60)
		if got, want := Digits(n), slowDigits(n); got != want {
			t.Fatalf("Digits(%d) = %q, want %q", n, got, want)
		}
	}
}

// P5.2: live and free names, at their bounds and between.
func TestParse(t *testing.T) {
	for _, c := range []struct {
		name    string
		kind, n int
	}{
		{"wal-1", Live, 1},
		{"wal-2", Live, 2},
		{"wal-9", Live, 9},
		{"wal-10", Live, 10},
		{"wal-12", Live, 12},
		{"wal-99", Live, 99},
		{"wal-100", Live, 100},
		{"wal-101", Live, 101},
		{"wal-1000000000", Live, 1000000000},
		{"wal-2147483646", Live, 2147483646},
		{"wal-2147483647", Live, 2147483647},
		{"free-0", Free, 0},
		{"free-1", Free, 1},
		{"free-2", Free, 2},
	} {
		if kind, n := Parse(c.name); kind != c.kind || n != c.n {
			t.Errorf("Parse(%s) = %d, %d, want %d, %d", c.name, kind, n, c.kind, c.n)
		}
	}
}

// P5.2: None and 0 of all others.
func TestParseOfOthers(t *testing.T) {
	long := strings.Repeat("9", 1000)
	for _, c := range []struct {
		why   string
		names []string
	}{
		{"nothing", []string{""}},
		{"without digits", []string{"wal-", "free-", "wal", "free", "-", "w", "wa", "fre", "wal--", "free--"}},
		{"leading zeros", []string{"wal-00", "wal-01", "wal-012", "wal-0000000001", "wal-02147483647", "free-00", "free-01", "free-02", "free-000"}},
		{"a minus", []string{"wal--1", "wal--0", "wal--12", "free--0", "free--1", "free--2", "wal-1-", "wal-1-2", "free-1-", "free-1-0", "-wal-1", "-free-1"}},
		{"a plus", []string{"wal-+1", "wal-+0", "free-+0", "free-+1"}},
		{"other bytes among the digits", []string{"wal-1a2", "wal-1_2", "wal-1 2", "wal-1.2", "wal-1\x002", "free-0x1", "wal-0x1", "wal-0b1", "wal-0o1", "wal-1e1", "free-1e0", "wal-\u0661"}},
		{"other bytes behind the digits", []string{"wal-12a", "wal-12 ", "wal-12\n", "wal-12\x00", "wal-12.", "free-1a", "free-1 ", "free-2\n", "free-0\xff"}},
		{"other bytes ahead of the digits", []string{"wal-a12", "wal- 12", "free-a1", "free- 1", "wal-_1"}},
		{"out of the bounds", []string{"wal-0", "wal-2147483648", "wal-2147483657", "wal-3000000000", "wal-10000000000", "free-3", "free-9", "free-10", "free-2147483647"}},
		{"round once more", []string{"wal-4294967296", "wal-4294967297", "free-4294967296", "free-4294967297", "wal-18446744073709551616", "wal-18446744073709551617", "free-18446744073709551616", "free-18446744073709551617"}},
		{"more digits than an int holds", []string{"wal-9223372036854775807", "wal-9223372036854775808", "wal-9223372036854775809", "free-9223372036854775808", "wal-99999999999999999999", "free-99999999999999999999", "wal-" + long, "free-" + long, "wal-1" + strings.Repeat("0", 1000)}},
		{"other heads", []string{"wal1", "wal_1", "wal.1", "wal 1", "free1", "free_1", "Wal-1", "WAL-1", "Free-1", "xwal-1", "xfree-1", " wal-1", "wall-1", "frees-1", "fre-1", "wa-1", "al-1", "ree-1", "live-1", "pool-1", "wal-wal-1", "free-free-1", "wal-free-1", "free-wal-1", "tmp-1", "-1", "1", "0", "12"}},
		{"other texts", []string{"a", "\x00", "\xff", "name", "wal-x", "free-x", letters, long}},
	} {
		for _, name := range c.names {
			if kind, n := Parse(name); kind != None || n != 0 {
				t.Errorf("%s: Parse(%.40q) = %d, %d", c.why, name, kind, n)
			}
		}
	}
}

// P5.2: Parse tells of any text what the chapter's words, gone through byte by byte, tell.
func TestParseByWords(t *testing.T) {
	seen := [3]int{}
	for _, name := range texts() {
		kind, n := Parse(name)
		wantKind, wantN := slowParse(name)
		if kind != wantKind || n != wantN {
			t.Fatalf("Parse(%q) = %d, %d, want %d, %d", name, kind, n, wantKind, wantN)
		}
		seen[kind]++
	}
	for kind, count := range seen {
		if count < 100 {
			t.Errorf("just %d texts are of the kind %d", count, kind)
		}
	}
}

// P5.2: of a name with any one byte in it changed, put in, or behind it.
func TestParseWithOneByte(t *testing.T) {
	for _, name := range []string{"wal-1", "wal-12", "wal-2147483647", "free-0", "free-2"} {
		for x := range 256 {
			c := string([]byte{byte(x)})
			for at := range len(name) + 1 {
				near := []string{name[:at] + c + name[at:]}
				if at < len(name) {
					near = append(near, name[:at]+c+name[at+1:])
				}
				for _, s := range near {
					kind, n := Parse(s)
					if wantKind, wantN := slowParse(s); kind != wantKind || n != wantN {
						t.Fatalf("Parse(%q) = %d, %d, want %d, %d", s, kind, n, wantKind, wantN)
					}
				}
			}
		}
	}
}

// P5.3: each live and each free name is a name, and is parsed as its number.
func TestMadeIsParsed(t *testing.T) {
	numbers := around()
	for n := range 3000 {
		numbers = append(numbers, n)
	}
	for _, n := range scatter(3000) {
		numbers = append(numbers, int(n>>33))
	}
	for _, n := range numbers {
		if live := n >= 1 && n <= greatest; live != (Wal(n) != "") {
			t.Fatalf("Wal(%d) = %q", n, Wal(n))
		} else if live {
			if kind, k := Parse(Wal(n)); kind != Live || k != n || !Right(Wal(n)) {
				t.Fatalf("Wal(%d) is parsed as %d, %d, right %v", n, kind, k, Right(Wal(n)))
			}
		}
		if free := n >= 0 && n <= pools; free != (Pool(n) != "") {
			t.Fatalf("Pool(%d) = %q", n, Pool(n))
		} else if free {
			if kind, k := Parse(Pool(n)); kind != Free || k != n || !Right(Pool(n)) {
				t.Fatalf("Pool(%d) is parsed as %d, %d, right %v", n, kind, k, Right(Pool(n)))
			}
		}
	}
}

// P5.3: what is parsed is the name of its number, and no other one; it is a name.
func TestParsedIsMade(t *testing.T) {
	for _, name := range texts() {
		switch kind, n := Parse(name); kind {
		case Live:
			if Wal(n) != name || !Right(name) {
				t.Fatalf("%q is parsed as %d, whose name is %q", name, n, Wal(n))
			}
		case Free:
			if Pool(n) != name || !Right(name) {
				t.Fatalf("%q is parsed as %d, whose name is %q", name, n, Pool(n))
			}
		}
	}
}

// P5.3: unlike numbers have unlike names, and unlike digits.
func TestUnlikeNames(t *testing.T) {
	names, digits := map[string]int{}, map[string]int{}
	numbers := around()
	for n := range 5000 {
		numbers = append(numbers, n, -n, greatest-n)
	}
	slices.Sort(numbers)
	for _, n := range slices.Compact(numbers) {
		digits[Digits(n)]++
		for _, name := range []string{Wal(n), Pool(n)} {
			if name != "" {
				names[name]++
			}
		}
	}
	for _, l := range []map[string]int{names, digits} {
		for name, count := range l {
			if count != 1 {
				t.Errorf("%d numbers have %q", count, name)
			}
		}
	}
	if len(names) < 10000 || len(digits) < 10000 {
		t.Errorf("just %d names and %d numbers' digits are there", len(names), len(digits))
	}
}
