package disk

import (
	"maps"

	"outrider/api"
)

// What is done to names.
const (
	made = iota
	renamed
	removed
)

const maskBits = 63 // of a mask, for sectors; the one above them tells how many bytes there are

// content is the bytes of a file, which it keeps when its name is another one.
type content struct {
	now, sure string
}

// turn is one of names.
type turn struct {
	kind int
	file *content
	from []string // names that go
	to   string   // the one that comes
}

// do turns names; those at a loss of power may be others than there were when the turn was done first.
func (t turn) do(names map[string]*content) {
	if t.kind != made && len(namesOf(names, t.file)) == 0 { // what made it, or left it a name, was lost
		return
	}
	for _, s := range t.from {
		delete(names, s)
	}
	if t.kind != removed {
		names[t.to] = t.file
	}
}

// Crash: what survives.
func (d *Disk) Crash(names []bool, sectors []uint64) {
	if d == nil {
		return
	}
	for i, t := range d.pending {
		if i < len(names) && names[i] {
			t.do(d.sure)
		}
	}
	for i, f := range files(d.sure) {
		mask := uint64(0)
		if i < len(sectors) {
			mask = sectors[i]
		}
		f.sure = f.survives(mask)
		f.now = f.sure
	}
	d.names, d.pending = maps.Clone(d.sure), nil
	d.fuse, d.down = noFuse, false
}

// survives: what a mask leaves of a file.
func (f *content) survives(mask uint64) string {
	size := len(f.sure)
	if mask>>maskBits == 1 {
		size = len(f.now)
	}
	b := make([]byte, size)
	for k := 0; k*api.Sector < size; k++ {
		from := f.sure
		if mask>>(k%maskBits)&1 == 1 {
			from = f.now
		}
		at := k * api.Sector
		copy(b[at:min(at+api.Sector, size)], from[min(at, len(from)):])
	}
	return string(b)
}
