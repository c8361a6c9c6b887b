package disk_test

import (
	"math/rand"
	"slices"
	"sort"
	"strconv"
	"strings"
	"testing"

	"outrider/api"
	"outrider/disk"
)

// model is a disk as the chapter tells of it, with each file known by a number.
type model struct {
	room, fuse, steps int
	down              bool
	now, sure         []string // bytes, by files' numbers
	names, sureNames  []entry
	pending           []modelTurn
}

type entry struct {
	name string
	file int
}

// modelTurn: names that go, and those that come; whether its file must have a name for that.
type modelTurn struct {
	file    int
	of      []string
	to      []string
	ofNamed bool
}

// turned: names, behind a turn.
func turned(names []entry, x modelTurn) []entry {
	named := slices.ContainsFunc(names, func(e entry) bool { return e.file == x.file })
	if x.ofNamed && !named {
		return names
	}
	var l []entry
	for _, e := range names {
		if !slices.Contains(x.of, e.name) && !slices.Contains(x.to, e.name) {
			l = append(l, e)
		}
	}
	for _, n := range x.to {
		l = append(l, entry{n, x.file})
	}
	sort.Slice(l, func(i, j int) bool { return l[i].name < l[j].name })
	return l
}

func (m *model) find(name string) int {
	for _, e := range m.names {
		if e.name == name {
			return e.file
		}
	}
	return -1
}

// numbers: of the files that have names, each once, as their first names rise.
func numbers(names []entry) []int {
	var l []int
	for _, e := range names {
		if !slices.Contains(l, e.file) {
			l = append(l, e.file)
		}
	}
	return l
}

func (m *model) used() int {
	n := 0
	for _, f := range numbers(m.names) {
		n += len(m.now[f])
	}
	return n
}

// goes: does a step go by?
func (m *model) goes() bool {
	if m.fuse == 0 {
		m.down = true
		return false
	}
	m.fuse--
	m.steps++
	return true
}

func (m *model) turn(x modelTurn) {
	m.names = turned(m.names, x)
	m.pending = append(m.pending, x)
}

func (m *model) write(name, text string) api.Errno {
	f := m.find(name)
	had := 0
	if f >= 0 {
		had = len(m.now[f])
	}
	switch {
	case m.down:
		return api.ErrPower
	case name == "" || len(name) > 32:
		return api.ErrArg
	case f < 0 && len(m.names) >= 16:
		return api.ErrFull
	case m.used()+len(text)-had > m.room:
		return api.ErrSpace
	case !m.goes():
		return api.ErrPower
	}
	if f < 0 {
		f = len(m.now)
		m.now, m.sure = append(m.now, ""), append(m.sure, "")
		m.turn(modelTurn{file: f, to: []string{name}})
	}
	m.now[f] = text
	return api.OK
}

// named: what a call of a name that must be there does first.
func (m *model) named(name string) (int, api.Errno) {
	f := m.find(name)
	switch {
	case m.down:
		return 0, api.ErrPower
	case f < 0:
		return 0, api.ErrNone
	}
	return f, api.OK
}

func (m *model) sync(name string) api.Errno {
	f, e := m.named(name)
	if e == api.OK && !m.goes() {
		e = api.ErrPower
	}
	if e == api.OK {
		m.sure[f] = m.now[f]
	}
	return e
}

func (m *model) rename(from, to string) api.Errno {
	f, e := m.named(from)
	switch {
	case e != api.OK:
		return e
	case to == "" || len(to) > 32:
		return api.ErrArg
	case from == to:
		return api.OK
	case !m.goes():
		return api.ErrPower
	}
	var of []string
	for _, x := range m.names {
		if x.file == f {
			of = append(of, x.name)
		}
	}
	m.turn(modelTurn{file: f, of: of, to: []string{to}, ofNamed: true})
	return api.OK
}

func (m *model) remove(name string) api.Errno {
	f, e := m.named(name)
	if e == api.OK && !m.goes() {
		e = api.ErrPower
	}
	if e == api.OK {
		m.turn(modelTurn{file: f, of: []string{name}, ofNamed: true})
	}
	return e
}

func (m *model) syncDir() api.Errno {
	if m.down || !m.goes() {
		return api.ErrPower
	}
	m.sureNames, m.pending = m.names, nil
	return api.OK
}

func (m *model) crash(names []bool, sectors []uint64) {
	for i, x := range m.pending {
		if i < len(names) && names[i] {
			m.sureNames = turned(m.sureNames, x)
		}
	}
	for i, f := range numbers(m.sureNames) {
		var mask uint64
		if i < len(sectors) {
			mask = sectors[i]
		}
		n := len(m.sure[f])
		if mask >= 1<<63 {
			n = len(m.now[f])
		}
		var b strings.Builder
		for p := range n {
			was := m.sure[f]
			if mask>>(p/64%63)%2 == 1 {
				was = m.now[f]
			}
			if p < len(was) {
				b.WriteByte(was[p])
			} else {
				b.WriteByte(0)
			}
		}
		m.now[f], m.sure[f] = b.String(), b.String()
	}
	m.names, m.pending, m.down, m.fuse = m.sureNames, nil, false, -1
}

// agrees holds a disk against its model, in all that can be read.
func agrees(t *testing.T, d *disk.Disk, m *model) bool {
	t.Helper()
	var names []string
	for _, e := range m.names {
		if !m.down {
			names = append(names, e.name)
		}
		s, e1 := d.Read(e.name)
		if !m.down && (s != m.now[e.file] || e1 != api.OK) {
			t.Errorf("Read of %q: %q, %v, wanted %q", e.name, s, e1, m.now[e.file])
			return false
		}
	}
	if !slices.Equal(d.Names(), names) || d.Used() != m.used() || d.Pending() != len(m.pending) || d.Steps() != m.steps || d.Down() != m.down {
		t.Errorf("%q, %d bytes, %d turns, %d steps, %v, wanted %q, %d, %d, %d, %v", d.Names(), d.Used(), d.Pending(), d.Steps(), d.Down(), names, m.used(), len(m.pending), m.steps, m.down)
		return false
	}
	return true
}

// masks: turns and sectors by chance.
func masks(r *rand.Rand) ([]bool, []uint64) {
	names := make([]bool, r.Intn(12))
	for i := range names {
		names[i] = r.Intn(2) == 0
	}
	sectors := make([]uint64, r.Intn(6))
	for i := range sectors {
		sectors[i] = []uint64{r.Uint64(), 0, all, long, uint64(r.Intn(8))}[r.Intn(5)]
	}
	return names, sectors
}

func TestByChance(t *testing.T) { // P13.1, P13.2, P13.3
	for seed := range int64(400) {
		r := rand.New(rand.NewSource(seed))
		few := []string{"a", "b", "c", "d", "", strings.Repeat("x", 33), "e", "f", "g", "h", "i", "j", "k", "l", "m", "n", "o", "p", "q", "r", "s", "t"}
		if seed%2 == 0 {
			few = few[:5]
		}
		name := func() string { return few[r.Intn(len(few))] }
		room := []int{400, 65536, 10, 2000}[seed%4]
		d, m := fresh(t, room), &model{room: room, fuse: -1}
		for i := range 400 {
			var got, wanted api.Errno
			n, o := name(), name()
			switch k := r.Intn(20); {
			case k < 6:
				text := strings.Repeat(string(rune('A'+r.Intn(26))), r.Intn([]int{4, 100, 300, 5000}[r.Intn(4)]))
				got, wanted = d.Write(n, text), m.write(n, text)
			case k < 9:
				got, wanted = d.Sync(n), m.sync(n)
			case k < 13:
				got, wanted = d.Rename(n, o), m.rename(n, o)
			case k < 15:
				got, wanted = d.Remove(n), m.remove(n)
			case k < 16:
				got, wanted = d.SyncDir(), m.syncDir()
			case k < 17:
				f := r.Intn(20) - 4
				d.Fuse(f)
				m.fuse = max(f, -1)
			case k < 18 || m.down:
				names, sectors := masks(r)
				d.Crash(names, sectors)
				m.crash(names, sectors)
			}
			is(t, "an answer", got, wanted)
			if !agrees(t, d, m) || got != wanted {
				t.Fatalf("seed %d, call %d", seed, i)
			}
		}
	}
}

func TestSureByChance(t *testing.T) { // P13.3: what was made sure is there as it was, whatever was begun since then
	for seed := range int64(200) {
		r := rand.New(rand.NewSource(seed))
		d := fresh(t, api.MaxDisk)
		few := []string{"a", "b", "c", "d"}
		turn := func() {
			n, o := few[r.Intn(4)], few[r.Intn(4)]
			switch r.Intn(3) {
			case 0:
				d.Write(n, strings.Repeat(n, r.Intn(200)))
			case 1:
				d.Rename(n, o)
			case 2:
				d.Remove(n)
			}
		}
		for range 20 {
			for range r.Intn(10) {
				turn()
			}
			for _, n := range d.Names() {
				done(t, d.Sync(n))
			}
			done(t, d.SyncDir())
			wanted := state(t, d)
			for range r.Intn(10) {
				turn()
			}
			_, sectors := masks(r)
			for i := range sectors {
				sectors[i] = 0
			}
			d.Crash(nil, sectors)
			has(t, "what was sure", d, wanted)
		}
	}
}

func TestAllTurnsByChance(t *testing.T) { // P13.2: where all of it is done, all is there as it was
	for seed := range int64(200) {
		r := rand.New(rand.NewSource(seed))
		d := fresh(t, api.MaxDisk)
		few := []string{"a", "b", "c", "d"}
		for range 20 {
			for range r.Intn(10) {
				n, o := few[r.Intn(4)], few[r.Intn(4)]
				switch r.Intn(4) {
				case 0, 1:
					d.Write(n, strings.Repeat(n, r.Intn(200)))
				case 2:
					d.Rename(n, o)
				case 3:
					d.Remove(n)
				}
			}
			turns := d.Pending()
			wanted, ok := strings.CutSuffix(state(t, d), " "+strconv.Itoa(turns))
			if !ok {
				t.Fatal("no state")
			}
			d.Crash(slices.Repeat([]bool{true}, turns), slices.Repeat([]uint64{all}, 16))
			has(t, "all of it", d, wanted+" 0")
		}
	}
}
