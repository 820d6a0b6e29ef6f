package disk

import "maps"

// thing is what was done to a file.
type thing struct {
	note
	do   func(f files)           // does it, to files as they were ahead of it
	tear func(f files, torn int) // does what is left of it, if a crash comes while it is done
}

// note says which thing was done, since two functions can't be held against each other.
type note struct {
	file int
	cut  bool
	many int    // of a cut: how many bytes it left
	put  string // of all others: what was put behind the file's bytes
}

func like(a, b thing) bool { return a.note == b.note }

// putting is the thing that puts these bytes behind those of a file: a crash may keep the first ones.
func putting(file int, s string) thing {
	return thing{
		note: note{file: file, put: s},
		do:   func(f files) { f.put(file, s) },
		tear: func(f files, torn int) { f.put(file, s[:min(torn, len(s))]) },
	}
}

// cutting is the thing that cuts a file: a crash keeps it wholly, or not at all.
func cutting(file, many int) thing {
	return thing{
		note: note{file: file, cut: true, many: many},
		do:   func(f files) { f.cut(file, many) },
		tear: func(files, int) {},
	}
}

// do does a thing, which is loose then.
func (d *Disk) do(t thing) {
	t.do(d.files)
	d.loose = append(d.loose, t)
}

// settle lets the files last as they are seen.
func (d *Disk) settle() { d.synced, d.loose = maps.Clone(d.files), nil }
