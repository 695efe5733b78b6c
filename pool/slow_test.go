package pool

import (
	"slices"

	"strandline/api"
	"strandline/disk"
)

// slowPool tells the names of the pool's files, rising, the spare's among them.
func slowPool(d *disk.Disk) []string {
	var l []string
	for _, f := range d.Files() {
		if slices.Contains(frees(), f.Name) && len(f.L) == segment {
			l = append(l, f.Name)
		}
	}
	return l
}

// slowUnused tells the free names from free-1 on that no file has, rising.
func slowUnused(d *disk.Disk) []string {
	var l []string
	for _, name := range frees() {
		if name != "free-0" && !slices.Contains(d.List(), name) {
			l = append(l, name)
		}
	}
	return l
}

// slowSpare is Spare by the chapter's words.
func slowSpare(d *disk.Disk) answer {
	if d.Down() {
		return answer{e: api.ErrDown}
	}
	if slices.Contains(slowPool(d), "free-0") {
		return answer{}
	}
	if slices.Contains(d.List(), "free-0") {
		if e := d.Remove("free-0"); e != api.OK {
			return answer{e: e}
		}
	}
	return answer{e: d.Make("free-0", segment)}
}

// slowTake is Take by the chapter's words.
func slowTake(d *disk.Disk) answer {
	if d.Down() {
		return answer{e: api.ErrDown}
	}
	for _, name := range slowPool(d) {
		if name != "free-0" {
			return answer{name: name}
		}
	}
	for _, name := range slowUnused(d) {
		if e := d.Make(name, segment); e != api.OK {
			return answer{e: e}
		}
		return answer{name: name}
	}
	return answer{e: api.ErrFull}
}

// slowGive is Give by the chapter's words.
func slowGive(d *disk.Disk, name string) answer {
	if d.Down() {
		return answer{e: api.ErrDown}
	}
	for _, f := range d.Files() {
		if f.Name != name {
			continue
		}
		if l := slowUnused(d); len(f.L) == segment && len(l) > 0 {
			return answer{e: d.Rename(name, l[0])}
		}
		return answer{e: d.Remove(name)}
	}
	return answer{e: api.ErrNone}
}

// slowCount is Count by the chapter's words.
func slowCount(d *disk.Disk) answer {
	n := 0
	for _, name := range slowPool(d) {
		if name != "free-0" {
			n++
		}
	}
	return answer{n: n}
}

// slowClean is Clean by the chapter's words.
func slowClean(d *disk.Disk) answer {
	if d.Down() {
		return answer{e: api.ErrDown}
	}
	kept := slowPool(d)
	for _, name := range d.List() {
		if !slices.Contains(frees(), name) || slices.Contains(kept, name) {
			continue
		}
		if e := d.Remove(name); e != api.OK {
			return answer{e: e}
		}
	}
	return answer{}
}
