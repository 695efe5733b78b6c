package join

import (
	"testing"

	"strandline/api"
)

// tooLong are counts of bytes that no record has, some the same as a small one in fewer bits.
func tooLong() []int {
	return []int{513, 514, 600, 767, 768, 1000, 1023, 1024, 1025, 1 << 15, 1<<16 - 1, 1 << 16, 1<<16 + 1, 1<<16 + 512, 1 << 20}
}

// P15.1: a FragFull and a FragFirst of each count of bytes up to far more than a record has.
func TestLongFirst(t *testing.T) {
	counts := tooLong()
	for n := range 700 {
		counts = append(counts, n)
	}
	for _, n := range counts {
		data := string(mixed(n))
		if n > 512 {
			run(t, "FragFull", []row{bad(full, data, api.ErrLong), ends(full, "a", "a")})
			run(t, "FragFirst", []row{bad(first, data, api.ErrLong), bad(last, "a", api.ErrForm)})
		} else {
			run(t, "FragFull", []row{ends(full, data, data), ends(full, "a", "a")})
			run(t, "FragFirst", []row{on(first, data), ends(last, "", data)})
		}
		if t.Failed() {
			t.Fatalf("with %d bytes", n)
		}
	}
}

// P15.1: a FragMiddle and a FragLast behind a FragFirst, of just as many bytes as a record has, of one more, and of far more, whichever of them has how many.
func TestLongBehind(t *testing.T) {
	all := mixed(1 << 20)
	for had := range 513 {
		left := 512 - had
		begun := on(first, string(all[:had]))
		fits, rest := string(all[had:512]), string(all[:512])
		run(t, "FragMiddle that fits", []row{begun, on(middle, fits), ends(last, "", rest)})
		run(t, "FragLast that fits", []row{begun, ends(last, fits, rest)})
		for _, n := range []int{left + 1, left + 2, 512, 513, 600} {
			if n <= left {
				continue
			}
			long := string(all[:n])
			run(t, "FragMiddle", []row{begun, bad(middle, long, api.ErrLong), bad(last, "", api.ErrForm)})
			run(t, "FragLast", []row{begun, bad(last, long, api.ErrLong), bad(last, "", api.ErrForm)})
			run(t, "FragMiddle behind one", []row{begun, on(middle, fits), bad(middle, long, api.ErrLong), ends(full, "", "")})
		}
		if t.Failed() {
			t.Fatalf("behind %d bytes", had)
		}
	}
	for _, n := range tooLong() {
		long := string(all[:n])
		run(t, "FragMiddle of far more", []row{on(first, ""), bad(middle, long, api.ErrLong), bad(middle, "", api.ErrForm)})
		run(t, "FragLast of far more", []row{on(first, ""), bad(last, long, api.ErrLong), bad(middle, "", api.ErrForm)})
		run(t, "FragLast of far more, behind all", []row{on(first, string(all[:512])), bad(last, long, api.ErrLong), ends(full, "b", "b")})
	}
}

// P15.1: many small fragments, up to a record's last byte, and one more.
func TestLongByMany(t *testing.T) {
	data := scatter(600)
	for _, step := range []int{1, 2, 3, 7, 64, 197, 256} {
		rows := []row{on(first, "")}
		had := 0
		for ; had+step <= 512; had += step {
			rows = append(rows, on(middle, string(data[had:had+step])))
		}
		rows = rows[:len(rows):len(rows)]
		run(t, "ended", append(rows, ends(last, string(data[had:512]), string(data[:512]))))
		run(t, "too long by its last one", append(rows, bad(last, string(data[had:513]), api.ErrLong)))
		run(t, "too long by one more", append(rows, on(middle, string(data[had:512])), on(middle, ""), bad(middle, "a", api.ErrLong), ends(full, "b", "b")))
	}
	var rows []row
	rows = append(rows, on(first, string(data[:512])))
	for range 5000 {
		rows = append(rows, on(middle, ""))
	}
	run(t, "none behind all", append(rows, ends(last, "", string(data[:512]))))
}

// P15.1: the room behind Data's end says nothing of how long a record is.
func TestLongRoom(t *testing.T) {
	for _, room := range []int{0, 1, 512, 513, 1 << 12, 1 << 16, 1 << 20} {
		for _, n := range []int{0, 1, 170} {
			data := append(make([]byte, 0, n+room), mixed(n)...)
			j, w := New(), &words{}
			var l []api.Frag
			for _, kind := range []int{full, first, middle, last, first, last} {
				l = append(l, api.Frag{Kind: kind, Data: data})
			}
			byWords(t, j, w, l)
			if !j.Idle() {
				t.Fatalf("%d bytes with room for %d more: it isn't idle", n, room)
			}
		}
	}
}

// P15.1: where ErrForm and ErrLong both might be it is ErrForm, the one that is named first.
func TestFormAheadOfLong(t *testing.T) {
	for _, n := range []int{513, 1 << 16} {
		long := string(mixed(n))
		all := string(mixed(512))
		for _, kind := range []int{middle, last, 0, 5, -1} {
			run(t, "idle", []row{bad(kind, long, api.ErrForm), ends(full, "a", "a")})
		}
		for _, kind := range []int{full, first, 0, 5, -1} {
			run(t, "not idle", []row{on(first, ""), bad(kind, long, api.ErrForm), bad(last, "a", api.ErrForm)})
			run(t, "not idle, with all", []row{on(first, all), bad(kind, long, api.ErrForm), bad(last, "a", api.ErrForm)})
			run(t, "not idle, with all, and one byte more", []row{on(first, all), bad(kind, "x", api.ErrForm), bad(last, "a", api.ErrForm)})
		}
	}
}

// P15.1: all sequences of fragments of lengths at the bounds: by the chapter's words.
func TestLongSequences(t *testing.T) {
	var datas [][]byte
	for _, n := range []int{0, 1, 255, 256, 257, 511, 512, 513} {
		datas = append(datas, mixed(n))
	}
	for l := range sequences(choices([]int{full, first, middle, last, 0}, datas), 3) {
		byWords(t, New(), &words{}, l)
	}
	behind := choices([]int{middle, last}, datas[:7])
	for l := range sequences(behind, 3) {
		for _, f := range choices([]int{first}, datas) {
			byWords(t, New(), &words{}, append([]api.Frag{f}, l...))
		}
	}
}
