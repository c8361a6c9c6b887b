package file_test

import (
	"bytes"
	"crypto/sha256"
	"encoding/binary"
	"math"
	"math/rand"
	"slices"
	"strings"
	"testing"
	"unsafe"

	"outrider/api"
	"outrider/disk"
	"outrider/file"
)

const all = uint64(math.MaxUint64) // a mask: all that there was

// sealed: a sealed text, by hand.
func sealed(text string) string {
	b := append(binary.AppendUvarint([]byte("OT"), uint64(len(text))), text...)
	sum := sha256.Sum256(b)
	return string(b) + string(sum[:16])
}

// closed: any bytes with a right sum behind them.
func closed(s string) string {
	sum := sha256.Sum256([]byte(s))
	return s + string(sum[:16])
}

func fresh(t *testing.T) *disk.Disk {
	t.Helper()
	d, e := disk.New(api.MaxDisk)
	if e != api.OK {
		t.Fatal(e)
	}
	return d
}

// is holds an error against the one that is wanted.
func is(t *testing.T, what string, got, wanted api.Errno) {
	t.Helper()
	if got != wanted {
		t.Errorf("%s: %v, wanted %v", what, got, wanted)
	}
}

// loads holds what a name has against the text that is wanted.
func loads(t *testing.T, what string, d *disk.Disk, name, wanted string) {
	t.Helper()
	if s, e := file.Load(d, name); s != wanted || e != api.OK {
		t.Errorf("%s: %q, %v, wanted %q", what, s, e, wanted)
	}
}

func texts() []string {
	l := []string{"", "a", "OT", "OT\x00", sealed("a"), "\x00\xff\x80", strings.Repeat("x", 16384), strings.Repeat("y", 1<<20)}
	for _, n := range []int{47, 63, 64, 65, 127, 128, 129, 300, 16383} {
		l = append(l, strings.Repeat("z", n))
	}
	return l
}

func TestSeal(t *testing.T) { // P14.1
	for _, s := range texts() {
		if got := file.Seal(s); got != sealed(s) {
			t.Errorf("Seal of %d bytes: %.40q", len(s), got)
		}
		if got, e := file.Open(sealed(s)); got != s || e != api.OK {
			t.Errorf("Open of Seal of %d bytes: %.40q, %v", len(s), got, e)
		}
	}
	if !strings.HasPrefix(file.Seal(strings.Repeat("x", 300)), "OT\xac\x02xxx") || len(file.Seal("a")) != 20 {
		t.Error("Seal isn't OT, a number, the text, 16 bytes")
	}
	if file.Steps() != 4 {
		t.Errorf("%d steps", file.Steps())
	}
}

func TestOpenBroken(t *testing.T) { // P14.1
	broken := func(what, s string) {
		t.Helper()
		if got, e := file.Open(s); got != "" || e != api.ErrBroken {
			t.Errorf("Open of %s, %.40q: %q, %v", what, s, got, e)
		}
	}
	for _, s := range []string{"", "O", "OT", "OT\x00", "OT\x01a", "OT\x80", "OT\xff\xff\xff\xff\xff\xff\xff\xff\xff\x01", strings.Repeat("\x00", 100)} {
		broken("no sealed text", s)
		broken("no sealed text, with a sum", closed(s)+"x")
	}
	broken("none, with its sum", closed(""))
	broken("another beginning", closed("OU\x01a"))
	broken("a small beginning", closed("ot\x01a"))
	broken("no number", closed("OT"))
	broken("a number without an end", closed("OT"+strings.Repeat("\x80", 9)))
	broken("a number in more bytes than need be", closed("OT\x81\x00a"))
	broken("a number above all", closed("OT\xff\xff\xff\xff\xff\xff\xff\xff\xff\x02a"))
	broken("the greatest number", closed("OT\xff\xff\xff\xff\xff\xff\xff\xff\xff\x01a"))
	broken("2^63", closed("OT\x80\x80\x80\x80\x80\x80\x80\x80\x80\x01a"))
	broken("a number too small", closed("OT\x00a"))
	broken("a number too great", closed("OT\x02a"))
	broken("a number that reaches to the end", closed("OT\x11a"))
	sum := sha256.Sum256([]byte("OT\x01a"))
	broken("a whole sum", "OT\x01a"+string(sum[:]))
	broken("the sum's end", "OT\x01a"+string(sum[16:]))
	broken("the text's sum alone", "OT\x01a"+closed("a")[1:])
	for _, s := range []string{sealed(""), sealed("a"), sealed(strings.Repeat("xyz", 50))} {
		for i := range len(s) {
			broken("a beginning", s[:i])
			broken("an end", s[i+1:])
			for bit := range 8 {
				b := []byte(s)
				b[i] ^= 1 << bit
				broken("one bit turned", string(b))
			}
		}
		broken("one byte more", s+"\x00")
		broken("one byte ahead", "O"+s)
		broken("twice", s+s)
	}
}

func TestSave(t *testing.T) { // P14.2
	d := fresh(t)
	for i, s := range []string{"one", "", strings.Repeat("x", 16384), "two"} {
		is(t, "Save", file.Save(d, "name", "by", s), api.OK)
		if d.Steps() != 4*(i+1) || d.Pending() != 0 {
			t.Errorf("%d steps, %d turns", d.Steps(), d.Pending())
		}
		loads(t, "behind Save", d, "name", s)
		if got, e := d.Read("name"); got != sealed(s) || e != api.OK || !slices.Equal(d.Names(), []string{"name"}) {
			t.Errorf("Save leaves %.40q, %v, %q", got, e, d.Names())
		}
		d.Crash(nil, nil)
		loads(t, "behind a loss of power", d, "name", s)
	}
	is(t, "Save under another name", file.Save(d, "other", "by", "three"), api.OK)
	d.Crash(nil, nil)
	loads(t, "the one", d, "name", "two")
	loads(t, "the other one", d, "other", "three")
	is(t, "by what was left over", d.Write("by", strings.Repeat("left", 100)), api.OK)
	is(t, "Save by what was left over", file.Save(d, "name", "by", "four"), api.OK)
	d.Crash(nil, nil)
	loads(t, "the one", d, "name", "four")
	if !slices.Equal(d.Names(), []string{"name", "other"}) {
		t.Errorf("%q", d.Names())
	}
}

func TestSaveErrors(t *testing.T) { // P14.2: the first that holds
	tooLong := strings.Repeat("x", 16385)
	is(t, "too long, of nil", file.Save(nil, "a", "a", tooLong), api.ErrLong)
	is(t, "one name, of nil", file.Save(nil, "a", "a", "x"), api.ErrArg)
	is(t, "no name twice, of nil", file.Save(nil, "", "", "x"), api.ErrArg)
	is(t, "nil", file.Save(nil, "a", "b", "x"), api.ErrNil)
	d := fresh(t)
	is(t, "too long", file.Save(d, "a", "b", tooLong), api.ErrLong)
	is(t, "too long, and one name", file.Save(d, "a", "a", tooLong), api.ErrLong)
	is(t, "one name", file.Save(d, "a", "a", "x"), api.ErrArg)
	is(t, "no other name", file.Save(d, "a", "", "x"), api.ErrArg)
	is(t, "no other name, of 33 bytes", file.Save(d, "a", strings.Repeat("x", 33), "x"), api.ErrArg)
	if d.Steps() != 0 || len(d.Names()) != 0 {
		t.Errorf("what is refused does something: %d steps, %q", d.Steps(), d.Names())
	}
	is(t, "no name", file.Save(d, "", "b", "x"), api.ErrArg) // which the third step tells
	if d.Steps() != 2 || !slices.Equal(d.Names(), []string{"b"}) {
		t.Errorf("no name: %d steps, %q", d.Steps(), d.Names())
	}
	d.Fuse(0)
	is(t, "no power", file.Save(d, "a", "b", "x"), api.ErrPower)
	is(t, "no power, and no name", file.Save(d, "a", "", "x"), api.ErrPower)
	is(t, "no power, and one name", file.Save(d, "a", "a", "x"), api.ErrArg)
	is(t, "no power, and too long", file.Save(d, "a", "b", tooLong), api.ErrLong)
	small, _ := disk.New(20)
	is(t, "no room", file.Save(small, "a", "b", "xx"), api.ErrSpace)
	is(t, "as much as there is room", file.Save(small, "a", "b", "x"), api.OK)
	is(t, "no room for the old one beside the new one", file.Save(small, "a", "b", "y"), api.ErrSpace)
	loads(t, "what there was", small, "a", "x")
	full := fresh(t)
	for i := range 16 {
		is(t, "a file", full.Write(string(rune('a'+i)), ""), api.OK)
	}
	is(t, "no more names", file.Save(full, "a", "z", "x"), api.ErrFull)
	is(t, "by one that is there", file.Save(full, "a", "b", "x"), api.OK)
}

func TestSaveSteps(t *testing.T) { // P14.2: which steps there are, in order
	for fuse, wanted := range []string{"", "by", "by", "name"} {
		d := fresh(t)
		d.Fuse(fuse)
		is(t, "Save", file.Save(d, "name", "by", "text"), api.ErrPower)
		if d.Steps() != fuse || !d.Down() {
			t.Errorf("a fuse of %d: %d steps", fuse, d.Steps())
		}
		bytesSure := ""
		if fuse >= 2 {
			bytesSure = sealed("text")
		}
		d.Crash([]bool{true, true}, nil)
		if got := strings.Join(d.Names(), " "); got != wanted {
			t.Errorf("a fuse of %d: %q", fuse, got)
		}
		for _, n := range d.Names() {
			if s, _ := d.Read(n); s != bytesSure {
				t.Errorf("a fuse of %d: %q", fuse, s)
			}
		}
		is(t, "Save again", file.Save(d, "name", "by", "text"), api.OK)
	}
}

func TestLoad(t *testing.T) { // P14.2
	refused := func(what string, d *disk.Disk, name string, wanted api.Errno) {
		t.Helper()
		if s, e := file.Load(d, name); s != "" || e != wanted {
			t.Errorf("Load of %s: %q, %v, wanted %v", what, s, e, wanted)
		}
	}
	refused("nil", nil, "a", api.ErrNil)
	d := fresh(t)
	refused("none", d, "a", api.ErrNone)
	refused("no name", d, "", api.ErrNone)
	for _, s := range []string{"", "OT", "OT\x01a", sealed("a") + "x", sealed("a")[1:], "text"} {
		is(t, "Write", d.Write("a", s), api.OK)
		refused("what isn't sealed", d, "a", api.ErrBroken)
	}
	long := strings.Repeat("x", 20000) // longer than what may be saved
	is(t, "Write", d.Write("a", sealed(long)), api.OK)
	loads(t, "what was written by hand", d, "a", long)
	d.Fuse(0)
	is(t, "a step", d.SyncDir(), api.ErrPower)
	refused("no power", d, "a", api.ErrPower)
	refused("no power, no file", d, "b", api.ErrPower)
}

func TestClean(t *testing.T) { // P14.2
	d := fresh(t)
	for _, n := range []string{"a", "b", "c", "d"} {
		is(t, "Write", d.Write(n, n), api.OK)
	}
	is(t, "SyncDir", d.SyncDir(), api.OK)
	clean := func(what string, wanted string, steps int, by ...string) {
		t.Helper()
		before := d.Steps()
		is(t, what, file.Clean(d, by...), api.OK)
		if got := strings.Join(d.Names(), ""); got != wanted || d.Steps() != before+steps || d.Pending() != 0 {
			t.Errorf("%s: %q, %d steps, %d turns", what, got, d.Steps()-before, d.Pending())
		}
		d.Crash(nil, nil)
		if got := strings.Join(d.Names(), ""); got != wanted {
			t.Errorf("%s, and a loss of power: %q", what, got)
		}
	}
	clean("of nothing", "abcd", 0)
	clean("of none that is there", "abcd", 0, "x", "", strings.Repeat("a", 40))
	clean("of one", "acd", 2, "b")
	clean("of one that is gone", "acd", 0, "b")
	clean("of some, one twice", "c", 3, "x", "d", "a", "d", "y")
	clean("of the last one, and others behind it", "", 2, "c", "x")
	is(t, "Write", d.Write("t", ""), api.OK)
	is(t, "of what is there, but not sure", file.Clean(d, "t"), api.OK)
	if d.Pending() != 0 || len(d.Names()) != 0 {
		t.Errorf("of what is there, but not sure: %q", d.Names())
	}
	is(t, "Write", d.Write("t", ""), api.OK)
	is(t, "of others than what isn't sure", file.Clean(d, "x"), api.OK)
	if d.Pending() != 1 {
		t.Error("what wasn't asked for is made sure")
	}
}

func TestCleanErrors(t *testing.T) { // P14.2
	is(t, "nil", file.Clean(nil, "a"), api.ErrNil)
	for fuse := range 3 {
		d := fresh(t)
		for _, n := range []string{"a", "b", "c"} {
			is(t, "Write", d.Write(n, n), api.OK)
		}
		is(t, "SyncDir", d.SyncDir(), api.OK)
		d.Fuse(fuse)
		is(t, "without so many steps", file.Clean(d, "x", "b", "a"), api.ErrPower)
		is(t, "without power", file.Clean(d, "x"), api.ErrPower)
		d.Crash(nil, nil)
		if got := strings.Join(d.Names(), ""); got != "abc" {
			t.Errorf("a fuse of %d: %q", fuse, got)
		}
	}
	d := fresh(t)
	is(t, "Write", d.Write("a", ""), api.OK)
	is(t, "Write", d.Write("b", ""), api.OK)
	is(t, "SyncDir", d.SyncDir(), api.OK)
	d.Fuse(1)
	is(t, "in order", file.Clean(d, "b", "a"), api.ErrPower)
	d.Crash([]bool{true}, nil)
	if !slices.Equal(d.Names(), []string{"a"}) {
		t.Errorf("in order: %q", d.Names())
	}
}

// sectorMasks: of one file; the sealed texts of these tests have up to five sectors.
func sectorMasks() []uint64 {
	var l []uint64
	for _, n := range []uint64{0, 1, 2, 6, 15, 16, 21} {
		l = append(l, n, n|1<<63)
	}
	return append(l, all)
}

// begun: a disk ahead of a Save: what name has, and what is left over of earlier ones.
func begun(t *testing.T, old, left string) *disk.Disk {
	t.Helper()
	d := fresh(t)
	if old != "" {
		is(t, "Save", file.Save(d, "name", "by", old), api.OK)
	}
	if left != "" {
		is(t, "Write", d.Write("by", left), api.OK)
		is(t, "Sync", d.Sync("by"), api.OK)
		is(t, "SyncDir", d.SyncDir(), api.OK)
	}
	return d
}

func TestWhereverThePowerGoes(t *testing.T) { // P14.3: each step, each set of turns, each mask
	long := strings.Repeat("0123456789", 27)
	for _, old := range []string{"", "old", strings.ToUpper(strings.Repeat("abcdefghi", 26))} {
		for _, left := range []string{"", sealed("left over"), strings.Repeat("junk", 70)} {
			for _, text := range []string{"new", long} {
				for fuse := range 5 {
					lost(t, old, left, text, fuse)
				}
			}
		}
	}
}

// lost: the power goes in a Save, or behind it, with all that may survive.
func lost(t *testing.T, old, left, text string, fuse int) {
	t.Helper()
	for turns := range 4 {
		for _, one := range sectorMasks() {
			for _, other := range []uint64{0, one, ^one} {
				d := begun(t, old, left)
				d.Fuse(fuse)
				saved := file.Save(d, "name", "by", text)
				if saved != api.OK && saved != api.ErrPower || (saved == api.OK) != (fuse == 4) {
					t.Fatalf("Save with a fuse of %d: %v", fuse, saved)
				}
				d.Crash([]bool{turns&1 == 1, turns&2 == 2}, []uint64{one, other})
				s, e := file.Load(d, "name")
				isOld := s == old && (e == api.OK || old == "" && e == api.ErrNone)
				isNew := s == text && e == api.OK
				if !isOld && !isNew || saved == api.OK && !isNew {
					t.Fatalf("a fuse of %d, turns %b, masks %x, %x, of %.9q to %.9q by %.9q: %q, %v", fuse, turns, one, other, old, text, left, s, e)
				}
				if file.Clean(d, "by") != api.OK || file.Save(d, "name", "by", "last") != api.OK {
					t.Fatal("no Save any more")
				}
				loads(t, "at last", d, "name", "last")
			}
		}
	}
}

func TestPowerByChance(t *testing.T) { // P14.3: over many Saves and losses, of two names, by one
	for seed := range int64(300) {
		r := rand.New(rand.NewSource(seed))
		d := fresh(t)
		had := map[string]string{}
		for range 60 {
			name := []string{"one", "two"}[r.Intn(2)]
			text := strings.Repeat(string(rune('a'+r.Intn(26))), r.Intn(400))
			d.Fuse(r.Intn(12) - 1)
			if r.Intn(4) == 0 {
				file.Clean(d, "by")
			}
			e := file.Save(d, name, "by", text)
			if e == api.OK {
				had[name] = text
			}
			if e == api.OK && r.Intn(3) > 0 {
				continue
			}
			d.Crash([]bool{r.Intn(2) == 0, r.Intn(2) == 0, r.Intn(2) == 0}, []uint64{r.Uint64(), r.Uint64(), r.Uint64()})
			for _, n := range []string{"one", "two"} {
				s, e1 := file.Load(d, n)
				_, was := had[n]
				kept := s == had[n] && (e1 == api.OK) == was && (was || e1 == api.ErrNone)
				if !kept && !(n == name && s == text && e1 == api.OK) {
					t.Fatalf("seed %d: %s has %q, %v; it had %q", seed, n, s, e1, had[n])
				}
				if e1 == api.OK {
					had[n] = s
				}
			}
		}
	}
}

func TestMemory(t *testing.T) { // nothing that is handed in is kept, no answer is told twice
	at := func(s string) *byte { return unsafe.StringData(s) }
	buffer := []byte("nameby--text")
	shared := unsafe.String(&buffer[0], len(buffer))
	d := fresh(t)
	is(t, "Save", file.Save(d, shared[:4], shared[4:6], shared[8:]), api.OK)
	copy(buffer, "spoiltspoilt")
	loads(t, "behind a change of what was handed in", d, "name", "text")
	one, _ := file.Load(d, "name")
	two, _ := file.Load(d, "name")
	if at(one) == at(two) {
		t.Error("Load answers one text twice")
	}
	raw := []byte(sealed("text"))
	s, e := file.Open(unsafe.String(&raw[0], len(raw)))
	clear(raw)
	if s != "text" || e != api.OK {
		t.Errorf("Open shares what is handed in: %q, %v", s, e)
	}
	by := []string{"by", "name", "x"}
	is(t, "Clean", file.Clean(d, by[:2]...), api.OK)
	if !slices.Equal(by, []string{"by", "name", "x"}) {
		t.Errorf("Clean changes what is handed in: %q", by)
	}
	whole := bytes.Repeat([]byte("x"), 100)
	file.Seal(unsafe.String(&whole[0], len(whole)))
	if !bytes.Equal(whole, bytes.Repeat([]byte("x"), 100)) {
		t.Error("Seal changes what is handed in")
	}
}
