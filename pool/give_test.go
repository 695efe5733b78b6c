package pool

import (
	"slices"
	"strings"
	"testing"

	"strandline/api"
)

// given is a row of Give of a name.
type given struct {
	name, files, left string
}

// P21.2: Give of files of SegSectors sectors, the free names being files or not.
func TestGive(t *testing.T) {
	for _, g := range []given{
		{"a", "a:17", "free-1=a:17"},
		{"wal-1", "wal-1:17", "free-1=wal-1:17"},
		{"wal-1", "wal-1:17 wal-2:17", "free-1=wal-1:17 wal-2:17"},
		{"a", "a:17 free-0:17", "free-0:17 free-1=a:17"},
		{"a", "a:17 free-0:3", "free-0:3 free-1=a:17"},
		{"a", "a:17 free-1:17", "free-1:17 free-2=a:17"},
		{"a", "a:17 free-1:3", "free-1:3 free-2=a:17"},
		{"a", "a:17 free-2:17", "free-1=a:17 free-2:17"},
		{"a", "a:17 free-2:3", "free-1=a:17 free-2:3"},
		{"a", "a:17 free-1:17 free-2:17", "free-1:17 free-2:17"},
		{"a", "a:17 free-1:3 free-2:64", "free-1:3 free-2:64"},
		{"a", "a:17 free-1:17 free-2:1", "free-1:17 free-2:1"},
		{"a", "a:17 free-0:17 free-1:17 free-2:17", "free-0:17 free-1:17 free-2:17"},
		{"a", "a:17 free-3:17", "free-1=a:17 free-3:17"},
		{"free-3", "a:17 free-3:17", "a:17 free-1=free-3:17"},
		{"free-01", "a:17 free-01:17 free-1:17", "a:17 free-1:17 free-2=free-01:17"},
		{"aaa", join(strings.Replace(many(63), "aaa:1", "aaa:17", 1), "free-1:17"), join(strings.TrimPrefix(many(63), "aaa:1 "), "free-1:17 free-2=aaa:17")},
	} {
		row{g.files, 0, answer{}, g.left, 1}.goesBy(t, "give "+g.name, giveOf(g.name))
		row{g.files, 100, answer{}, g.left, 1}.goesBy(t, "give "+g.name, giveOf(g.name))
	}
}

// P21.2: Give of free files themselves, in the pool or not, the spare too.
func TestGiveFrees(t *testing.T) {
	for _, g := range []given{
		{"free-0", "free-0:17", "free-1=free-0:17"},
		{"free-0", "free-0:17 free-1:17", "free-1:17 free-2=free-0:17"},
		{"free-0", "free-0:17 free-2:3", "free-1=free-0:17 free-2:3"},
		{"free-0", "free-0:17 free-1:17 free-2:17", "free-1:17 free-2:17"},
		{"free-0", "free-0:17 free-1:1 free-2:2", "free-1:1 free-2:2"},
		{"free-0", "free-0:16", ""},
		{"free-0", "free-0:18 free-1:17", "free-1:17"},
		{"free-1", "free-1:17", "free-2=free-1:17"},
		{"free-1", "free-0:17 free-1:17", "free-0:17 free-2=free-1:17"},
		{"free-1", "free-1:17 free-2:17", "free-2:17"},
		{"free-1", "free-1:17 free-2:3", "free-2:3"},
		{"free-1", "free-0:17 free-1:17 free-2:17", "free-0:17 free-2:17"},
		{"free-1", "free-1:16", ""},
		{"free-1", "free-1:18 free-2:17", "free-2:17"},
		{"free-2", "free-2:17", "free-1=free-2:17"},
		{"free-2", "free-0:17 free-2:17", "free-0:17 free-1=free-2:17"},
		{"free-2", "free-1:17 free-2:17", "free-1:17"},
		{"free-2", "free-1:3 free-2:17", "free-1:3"},
		{"free-2", "free-2:16", ""},
		{"free-2", "free-0:17 free-1:17 free-2:18", "free-0:17 free-1:17"},
	} {
		row{g.files, 0, answer{}, g.left, 1}.goesBy(t, "give "+g.name, giveOf(g.name))
		row{g.files, 100, answer{}, g.left, 1}.goesBy(t, "give "+g.name, giveOf(g.name))
	}
}

// P21.2: Give of no name, of texts that are none, and of names that no file has.
func TestGiveNone(t *testing.T) {
	for _, files := range states() {
		for _, name := range append(nearFrees(), "", "A", "free-1 ", " free-1", "free-\x00", "Free-1", "é", "x", strings.Repeat("x", 24), strings.Repeat("x", 25), "free-18446744073709551617") {
			if strings.Contains(" "+files, " "+name+":") {
				continue
			}
			row{files, 20, answer{e: api.ErrNone}, files, 0}.goesBy(t, "give "+name, giveOf(name))
		}
		for _, name := range frees() {
			if !strings.Contains(files, name) {
				row{files, 20, answer{e: api.ErrNone}, files, 0}.goesBy(t, "give "+name, giveOf(name))
			}
		}
	}
}

// P21.2: Give of files of each length: those that haven't SegSectors sectors are removed, whatever free names there are.
func TestGiveLengths(t *testing.T) {
	for n := 1; n <= maxSectors; n++ {
		for _, frees := range []string{"", "free-0:17", "free-1:17", "free-2:17", "free-1:3", "free-1:17 free-2:17", "free-0:17 free-1:17 free-2:17"} {
			for _, name := range []string{"a", "aaaa-1", "abc"} {
				files := join(sized(name, n), frees)
				r := row{files, 0, answer{}, frees, 1}
				if n == segment {
					r.left = rising(frees, name)
				}
				r.goesBy(t, "give "+name, giveOf(name))
			}
		}
	}
}

// rising is the text of these free files with a file of SegSectors sectors given to them, if a name is left.
func rising(frees, name string) string {
	l := strings.Fields(frees)
	for _, free := range []string{"free-1", "free-2"} {
		if !strings.Contains(frees, free) {
			l = append(l, free+"="+sized(name, segment))
			break
		}
	}
	slices.SortFunc(l, func(a, b string) int { return strings.Compare(a[:len("free-0")], b[:len("free-0")]) })
	return strings.Join(l, " ")
}
