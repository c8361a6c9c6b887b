package slot_test

import (
	"crypto/sha256"
	"encoding/binary"
	"math"
	"math/rand"
	"reflect"
	"slices"
	"strings"
	"testing"
	"unsafe"

	"outrider/api"
	"outrider/config"
	"outrider/disk"
	"outrider/file"
	"outrider/slot"
	"outrider/spot"
	"outrider/valid"
)

func place(a byte, port uint16) spot.Place { return spot.Place{IP: [4]byte{a, 0, 0, 1}, Port: port} }

// fine: a config that is, of a version, in new memory.
func fine(version uint64) config.Config {
	return config.Config{
		Version: version,
		Listeners: []config.Listener{
			{Name: "side", Place: place(1, 80), Routes: []config.Route{{Host: "*.b.c", Path: "/x", Cluster: "web", Idle: 300}}},
			{Name: "main", Place: place(2, 80), Routes: []config.Route{{Host: "a.b", Path: "/", Cluster: "db"}, {Host: "a.b", Path: "/y", Cluster: "web"}}},
		},
		Clusters: []config.Cluster{
			{Name: "web", Endpoints: []config.Endpoint{{Place: place(10, 8080), Weight: 1}, {Place: place(9, 8080), Weight: 100}}},
			{Name: "db", Endpoints: []config.Endpoint{{Place: place(10, 1), Weight: 7}}},
		},
	}
}

// great: a config, fine but for its length, with n bytes of paths.
func great(n int) config.Config {
	c := fine(1)
	c.Listeners = nil
	for i := range api.MaxList {
		l := config.Listener{Name: "l" + string(rune('0'+i)), Place: place(byte(i), 80)}
		for k := range api.MaxList {
			r := config.Route{Host: "h" + string(rune('0'+k)), Path: "/", Cluster: "web"}
			more := min(n, 127)
			n -= more
			r.Path += strings.Repeat("p", more)
			l.Routes = append(l.Routes, r)
		}
		c.Listeners = append(c.Listeners, l)
	}
	return c
}

// written: a config's bytes.
func written(t *testing.T, c config.Config) string {
	t.Helper()
	s, e := c.Bytes()
	if e != api.OK {
		t.Fatal(e)
	}
	return s
}

// greatest: one whose bytes are as many as may be.
func greatest(t *testing.T) config.Config {
	t.Helper()
	n := 5000
	n += api.MaxBytes - len(written(t, great(n)))
	for s, e := great(n).Bytes(); e != api.OK || len(s) > api.MaxBytes; s, e = great(n).Bytes() {
		n-- // a path of more than 127 bytes needs one byte more to tell how many they are
	}
	c := great(n)
	if len(written(t, c)) != api.MaxBytes || !valid.Fine(c) {
		t.Fatal("not as many as may be")
	}
	return c
}

// text: a slot's, by hand.
func text(t *testing.T, n uint64, c config.Config) string {
	t.Helper()
	return string(binary.BigEndian.AppendUint64(nil, n)) + written(t, c)
}

// printOf: a config's print, by hand, of one whose lists are written the one way once they are turned about.
func printOf(t *testing.T, c config.Config) api.Print {
	t.Helper()
	c = c.Clone()
	c.Version = 0
	slices.SortFunc(c.Listeners, func(a, b config.Listener) int { return strings.Compare(a.Name, b.Name) })
	slices.SortFunc(c.Clusters, func(a, b config.Cluster) int { return strings.Compare(a.Name, b.Name) })
	for _, x := range c.Clusters {
		slices.SortFunc(x.Endpoints, func(a, b config.Endpoint) int { return int(a.Place.IP[0]) - int(b.Place.IP[0]) })
	}
	sum := sha256.Sum256([]byte(written(t, c)))
	return api.Print(sum[:16])
}

func kept(t *testing.T, n uint64, c config.Config) slot.Kept {
	t.Helper()
	return slot.Kept{Number: n, Config: c, Print: printOf(t, c)}
}

func fresh(t *testing.T) *disk.Disk {
	t.Helper()
	d, e := disk.New(api.MaxDisk)
	if e != api.OK {
		t.Fatal(e)
	}
	return d
}

func is(t *testing.T, what string, got, wanted api.Errno) {
	t.Helper()
	if got != wanted {
		t.Errorf("%s: %v, wanted %v", what, got, wanted)
	}
}

// put: a slot's text by hand, sealed.
func put(t *testing.T, d *disk.Disk, name, s string) {
	t.Helper()
	is(t, "file.Save", file.Save(d, name, "by", s), api.OK)
}

func same(a, b slot.Kept) bool {
	return a.Number == b.Number && a.Print == b.Print && config.Same(a.Config, b.Config)
}

func versions(l []slot.Kept) []uint64 {
	var v []uint64
	for _, k := range l {
		v = append(v, k.Config.Version)
	}
	return v
}

// reads holds the slots that count against those that are wanted.
func reads(t *testing.T, what string, d *disk.Disk, wanted ...slot.Kept) {
	t.Helper()
	l, e := slot.Read(d)
	if e != api.OK || !slices.EqualFunc(l, wanted, same) {
		t.Errorf("%s: of versions %v, %v, wanted %v", what, versions(l), e, versions(wanted))
	}
}

func saves(t *testing.T, d *disk.Disk, c config.Config, n uint64) slot.Kept {
	t.Helper()
	k, e := slot.Save(d, c)
	if e != api.OK || !same(k, kept(t, n, c)) {
		t.Errorf("Save: number %d, version %d, print %x, %v", k.Number, k.Config.Version, k.Print, e)
	}
	return k
}

func refuses(t *testing.T, what string, d *disk.Disk, c config.Config, wanted api.Errno) {
	t.Helper()
	k, e := slot.Save(d, c)
	if e != wanted || !reflect.DeepEqual(k, slot.Kept{}) {
		t.Errorf("%s: number %d, %v, wanted %v", what, k.Number, e, wanted)
	}
}

func numbers() []uint64 {
	return []uint64{0, 1, 2, 127, 128, 255, 256, 1<<32 + 5, 1 << 63, math.MaxUint64 - 1, math.MaxUint64}
}

func TestText(t *testing.T) { // P15.1
	for _, n := range numbers() {
		for _, c := range []config.Config{{}, {Version: math.MaxUint64}, fine(7), greatest(t)} {
			s, e := slot.Text(slot.Kept{Number: n, Config: c})
			if wanted := text(t, n, c); s != wanted || e != api.OK {
				t.Errorf("number %d: %.40q, %v, wanted %.40q", n, s, e, wanted)
			}
			k, e := slot.Parse(s)
			if e != api.OK || !same(k, kept(t, n, c)) {
				t.Errorf("number %d: Parse of Text: number %d, %x, %v", n, k.Number, k.Print, e)
			}
		}
	}
	if s, _ := slot.Text(slot.Kept{Number: 258}); s != "\x00\x00\x00\x00\x00\x00\x01\x02\x03\x03\x01\x00\x03\x00\x03\x00" {
		t.Errorf("of the empty config: %q", s)
	}
	notFine := config.Config{Listeners: []config.Listener{{}}}
	s, e := slot.Text(slot.Kept{Number: 3, Config: notFine, Print: api.Print{1, 2}})
	if s != text(t, 3, notFine) || e != api.OK {
		t.Errorf("of what isn't fine: %q, %v", s, e)
	}
}

func TestTextErrors(t *testing.T) { // P15.1: layer 9's
	told := func(what string, c config.Config, wanted api.Errno) {
		t.Helper()
		if s, e := slot.Text(slot.Kept{Number: 1, Config: c}); s != "" || e != wanted {
			t.Errorf("%s: %.20q, %v, wanted %v", what, s, e, wanted)
		}
	}
	c := fine(1)
	c.Clusters[0].Endpoints[0].Weight = -1
	told("a weight below 0", c, api.ErrRange)
	c.Listeners = make([]config.Listener, 9)
	told("nine listeners", c, api.ErrMany)
	told("too long", great(8000), api.ErrLong)
}

func TestParse(t *testing.T) { // P15.1: of what is no slot's text
	broken := func(what, s string) {
		t.Helper()
		if k, e := slot.Parse(s); e != api.ErrBroken || !reflect.DeepEqual(k, slot.Kept{}) {
			t.Errorf("%s: %.40q: number %d, %v", what, s, k.Number, e)
		}
	}
	whole := text(t, 1<<40, fine(300))
	for i := range len(whole) {
		broken("a beginning", whole[:i])
		broken("an end", whole[i+1:])
	}
	broken("one byte more", whole+"\x00")
	broken("one byte ahead", "\x00"+whole)
	broken("a config alone", written(t, fine(1)))
	broken("a number alone", "12345678")
	broken("seven bytes of a number", "\x00\x00\x00\x00\x00\x00\x01"+written(t, config.Config{}))
	broken("a version in more bytes than need be", "\x00\x00\x00\x00\x00\x00\x00\x01\x03\x03\x01\x80\x00\x03\x00\x03\x00")
	broken("a value of another kind", "\x00\x00\x00\x00\x00\x00\x00\x01\x01\x05")
	for i, change := range []func(c *config.Config){
		func(c *config.Config) { c.Listeners[0].Name = "" },
		func(c *config.Config) { c.Listeners[1].Name = "side" },
		func(c *config.Config) { c.Listeners[1].Place = place(1, 80) },
		func(c *config.Config) { c.Listeners[1].Routes = nil },
		func(c *config.Config) { c.Listeners[1].Routes[0].Cluster = "none" },
		func(c *config.Config) { c.Clusters[1].Endpoints = nil },
		func(c *config.Config) { c.Clusters[1].Endpoints[0].Weight = 0 },
		func(c *config.Config) { c.Clusters[1].Endpoints[0].Weight = 101 },
	} {
		c := fine(1)
		change(&c)
		if valid.Fine(c) {
			t.Errorf("change %d: fine", i)
		}
		broken("what isn't fine", text(t, 1, c))
	}
	long := written(t, greatest(t))
	broken("of 8193 bytes", "\x00\x00\x00\x00\x00\x00\x00\x01"+long+"\x00")
}

func TestParseByChance(t *testing.T) { // P15.1: what is read would be written so
	r := rand.New(rand.NewSource(15))
	read := 0
	for range 20000 {
		b := []byte(text(t, r.Uint64(), fine(r.Uint64())))
		for range 1 + r.Intn(2) {
			b[r.Intn(len(b))] ^= 1 << r.Intn(8)
		}
		k, e := slot.Parse(string(b))
		if e != api.OK && e != api.ErrBroken || !valid.Fine(k.Config) {
			t.Fatalf("%q: %v", b, e)
		}
		if e == api.OK {
			read++
			if s, _ := slot.Text(k); s != string(b) || k.Print != printOf(t, k.Config) {
				t.Fatalf("%q is read, and written %q", b, s)
			}
		}
	}
	if read < 100 {
		t.Errorf("only %d were read", read)
	}
}

func TestRead(t *testing.T) { // P15.1
	d := fresh(t)
	reads(t, "of an empty disk", d)
	one, two := text(t, 1, fine(1)), text(t, 2, fine(2))
	put(t, d, "cfg-2", one)
	put(t, d, "cfg-t", one)
	put(t, d, "cfg-", one)
	reads(t, "of other files", d)
	put(t, d, "cfg-1", one)
	reads(t, "of cfg-1 alone", d, kept(t, 1, fine(1)))
	put(t, d, "cfg-0", two)
	reads(t, "the higher number in cfg-0", d, kept(t, 2, fine(2)), kept(t, 1, fine(1)))
	put(t, d, "cfg-1", text(t, 300, fine(1)))
	reads(t, "the higher number in cfg-1", d, kept(t, 300, fine(1)), kept(t, 2, fine(2)))
	put(t, d, "cfg-0", text(t, 300, fine(9)))
	reads(t, "of one number", d, kept(t, 300, fine(9)), kept(t, 300, fine(1)))
	put(t, d, "cfg-0", text(t, 0, fine(5)))
	put(t, d, "cfg-1", text(t, 0, fine(6)))
	reads(t, "of the number 0", d, kept(t, 0, fine(5)), kept(t, 0, fine(6)))
	put(t, d, "cfg-1", text(t, math.MaxUint64, fine(6)))
	reads(t, "of the highest number", d, kept(t, math.MaxUint64, fine(6)), kept(t, 0, fine(5)))
	before := d.Steps()
	reads(t, "again", d, kept(t, math.MaxUint64, fine(6)), kept(t, 0, fine(5)))
	if d.Steps() != before {
		t.Error("Read does steps")
	}
}

func TestReadWhatDoesNotCount(t *testing.T) { // P15.1
	notFine := fine(3)
	notFine.Clusters[1].Endpoints = nil
	for _, s := range []string{"", "x", "12345678", text(t, 9, notFine), text(t, 9, fine(9)) + "x", text(t, 9, fine(9))[1:]} {
		d := fresh(t)
		put(t, d, "cfg-0", s)
		reads(t, "cfg-0 doesn't count", d)
		put(t, d, "cfg-1", text(t, 1, fine(1)))
		reads(t, "cfg-1 alone counts", d, kept(t, 1, fine(1)))
		put(t, d, "cfg-0", text(t, 1, fine(2)))
		put(t, d, "cfg-1", s)
		reads(t, "cfg-0 alone counts", d, kept(t, 1, fine(2)))
		put(t, d, "cfg-0", s)
		reads(t, "neither counts", d)
	}
	d := fresh(t)
	is(t, "Write", d.Write("cfg-0", text(t, 1, fine(1))), api.OK)
	reads(t, "what isn't sealed", d)
	is(t, "Write", d.Write("cfg-0", file.Seal(text(t, 1, fine(1)))), api.OK)
	reads(t, "what is sealed", d, kept(t, 1, fine(1)))
}

func TestReadErrors(t *testing.T) { // P15.1
	told := func(what string, d *disk.Disk, wanted api.Errno) {
		t.Helper()
		if l, e := slot.Read(d); len(l) != 0 || e != wanted {
			t.Errorf("%s: %d, %v, wanted %v", what, len(l), e, wanted)
		}
	}
	told("nil", nil, api.ErrNil)
	d := fresh(t)
	saves(t, d, fine(1), 1)
	d.Fuse(0)
	reads(t, "a fuse alone", d, kept(t, 1, fine(1)))
	is(t, "a step", d.SyncDir(), api.ErrPower)
	told("without power", d, api.ErrPower)
	empty := fresh(t)
	empty.Fuse(0)
	is(t, "a step", empty.SyncDir(), api.ErrPower)
	told("without power, of an empty disk", empty, api.ErrPower)
}

// has: what a name's text is.
func has(t *testing.T, d *disk.Disk, name, wanted string) {
	t.Helper()
	if s, e := file.Load(d, name); s != wanted || e != api.OK {
		t.Errorf("%s: %.40q, %v, wanted %.40q", name, s, e, wanted)
	}
}

func TestSave(t *testing.T) { // P15.2
	d := fresh(t)
	for n := uint64(1); n <= 6; n++ {
		c := fine(100 - n) // the version makes no difference
		before := d.Steps()
		saves(t, d, c, n)
		if d.Steps() != before+4 || d.Pending() != 0 {
			t.Errorf("%d steps, %d turns", d.Steps()-before, d.Pending())
		}
		has(t, d, []string{"cfg-1", "cfg-0"}[n%2], text(t, n, c))
		if n == 1 {
			reads(t, "the first", d, kept(t, 1, c))
			if !slices.Equal(d.Names(), []string{"cfg-0"}) {
				t.Errorf("the first: %q", d.Names())
			}
			continue
		}
		reads(t, "one more", d, kept(t, n, c), kept(t, n-1, fine(101-n)))
		if !slices.Equal(d.Names(), []string{"cfg-0", "cfg-1"}) {
			t.Errorf("%q", d.Names())
		}
		d.Crash(nil, nil)
		reads(t, "behind a loss of power", d, kept(t, n, c), kept(t, n-1, fine(101-n)))
	}
	saves(t, d, fine(94), 7) // the same again
	reads(t, "the same twice", d, kept(t, 7, fine(94)), kept(t, 6, fine(94)))
	saves(t, d, config.Config{}, 8)
	saves(t, d, greatest(t), 9)
	reads(t, "the least and the greatest", d, kept(t, 9, greatest(t)), kept(t, 8, config.Config{}))
}

func TestSaveWhere(t *testing.T) { // P15.2: to the slot with the lower number, or none that counts
	other := fine(9)
	for _, x := range []struct {
		what        string
		zero, one   string // what the slots have
		number      uint64
		at          string
		still, gone bool // the other slot still counts; nothing stands beside the new one
	}{
		{what: "neither", number: 1, at: "cfg-0", gone: true},
		{what: "cfg-0 alone", zero: text(t, 5, fine(1)), number: 6, at: "cfg-1", still: true},
		{what: "cfg-1 alone", one: text(t, 5, fine(1)), number: 6, at: "cfg-0", still: true},
		{what: "cfg-0 of the number 0", zero: text(t, 0, fine(1)), number: 1, at: "cfg-1", still: true},
		{what: "cfg-1 of the number 0", one: text(t, 0, fine(1)), number: 1, at: "cfg-0", still: true},
		{what: "cfg-0 is lower", zero: text(t, 5, other), one: text(t, 6, fine(1)), number: 7, at: "cfg-0", still: true},
		{what: "cfg-1 is lower", zero: text(t, 256, fine(1)), one: text(t, 255, other), number: 257, at: "cfg-1", still: true},
		{what: "of one number", zero: text(t, 5, fine(1)), one: text(t, 5, other), number: 6, at: "cfg-1", still: true}, // P15.3: the newest stays
		{what: "cfg-0 doesn't count", zero: text(t, 7, fine(1)) + "x", one: text(t, 2, fine(1)), number: 3, at: "cfg-0", still: true},
		{what: "cfg-1 doesn't count", zero: text(t, 2, fine(1)), one: text(t, 7, fine(1)) + "x", number: 3, at: "cfg-1", still: true},
		{what: "neither counts", zero: "x", one: "y", number: 1, at: "cfg-0", gone: true},
		{what: "neither counts, cfg-0 isn't there", one: "y", number: 1, at: "cfg-0", gone: true},
		{what: "neither counts, cfg-1 isn't there", zero: "y", number: 1, at: "cfg-0", gone: true},
		{what: "the highest but one", zero: text(t, math.MaxUint64-1, fine(1)), number: math.MaxUint64, at: "cfg-1", still: true},
	} {
		d := fresh(t)
		if x.zero != "" {
			put(t, d, "cfg-0", x.zero)
		}
		if x.one != "" {
			put(t, d, "cfg-1", x.one)
		}
		before, _ := slot.Read(d)
		k := saves(t, d, fine(2), x.number)
		has(t, d, x.at, text(t, x.number, fine(2)))
		l, _ := slot.Read(d)
		if !same(l[0], k) || x.still != (len(l) == 2) || x.gone != (len(l) == 1) {
			t.Errorf("%s: %d slots", x.what, len(l))
		}
		if x.still && !same(l[1], before[0]) {
			t.Errorf("%s: the newest that there was is gone", x.what)
		}
	}
}

func TestSaveErrors(t *testing.T) { // P15.2: the first that holds
	notFine := fine(1)
	notFine.Listeners[0].Routes[0].Cluster = "none"
	many := fine(1)
	many.Clusters = make([]config.Cluster, 9)
	d := fresh(t)
	for _, x := range []*disk.Disk{nil, d} {
		refuses(t, "not fine", x, notFine, api.ErrForm)
		refuses(t, "too many", x, many, api.ErrForm)
		refuses(t, "too long", x, great(8000), api.ErrForm)
	}
	refuses(t, "nil", nil, fine(1), api.ErrNil)
	if d.Steps() != 0 {
		t.Error("what is refused does steps")
	}
	put(t, d, "cfg-1", text(t, math.MaxUint64, fine(1)))
	before := d.Steps()
	refuses(t, "no number", d, fine(2), api.ErrRange)
	refuses(t, "no number, not fine", d, notFine, api.ErrForm)
	put(t, d, "cfg-0", text(t, math.MaxUint64, fine(3)))
	refuses(t, "no number of both", d, fine(2), api.ErrRange)
	put(t, d, "cfg-1", text(t, 3, fine(1)))
	refuses(t, "no number of cfg-0", d, fine(2), api.ErrRange)
	reads(t, "what was refused", d, kept(t, math.MaxUint64, fine(3)), kept(t, 3, fine(1)))
	if d.Steps() != before+8 {
		t.Error("what is refused does steps")
	}
	d.Fuse(0)
	refuses(t, "no number, a fuse", d, fine(2), api.ErrRange)
	is(t, "a step", d.SyncDir(), api.ErrPower)
	refuses(t, "no number, without power", d, fine(2), api.ErrPower)
	refuses(t, "not fine, without power", d, notFine, api.ErrForm)
}

func TestSaveDiskErrors(t *testing.T) { // P15.2: the disk's
	size := len(file.Seal(text(t, 1, fine(1))))
	small, _ := disk.New(2*size - 1)
	saves(t, small, fine(1), 1)
	refuses(t, "no room", small, fine(2), api.ErrSpace)
	reads(t, "what was refused for room", small, kept(t, 1, fine(1)))
	exact, _ := disk.New(3 * size)
	saves(t, exact, fine(1), 1)
	saves(t, exact, fine(2), 2)
	saves(t, exact, fine(3), 3)
	full := fresh(t)
	for i := range 15 {
		is(t, "Write", full.Write("f"+string(rune('a'+i)), ""), api.OK)
	}
	saves(t, full, fine(1), 1)
	refuses(t, "no name", full, fine(2), api.ErrFull)
	for fuse := range 4 {
		d := fresh(t)
		d.Fuse(fuse)
		refuses(t, "a fuse", d, fine(1), api.ErrPower)
		if d.Steps() != fuse || !d.Down() {
			t.Errorf("a fuse of %d: %d steps", fuse, d.Steps())
		}
	}
}

func TestClean(t *testing.T) { // P15.2
	is(t, "of nil", slot.Clean(nil), api.ErrNil)
	d := fresh(t)
	is(t, "of an empty disk", slot.Clean(d), api.OK)
	for _, n := range []string{"cfg-0", "cfg-1", "cfg-t", "led-t", "x"} {
		is(t, "Write", d.Write(n, n), api.OK)
	}
	is(t, "SyncDir", d.SyncDir(), api.OK)
	d.Fuse(1)
	is(t, "with a fuse", slot.Clean(d), api.ErrPower)
	is(t, "without power", slot.Clean(d), api.ErrPower)
	d.Crash(nil, nil)
	is(t, "Clean", slot.Clean(d), api.OK)
	wanted := []string{"cfg-0", "cfg-1", "led-t", "x"}
	if !slices.Equal(d.Names(), wanted) || d.Pending() != 0 {
		t.Errorf("%q, %d turns", d.Names(), d.Pending())
	}
	before := d.Steps()
	is(t, "again", slot.Clean(d), api.OK)
	if d.Steps() != before {
		t.Error("steps of nothing")
	}
}

// begun: a disk on which so many configs were saved, and perhaps cfg-t was left over.
func begun(t *testing.T, saved int, left string) *disk.Disk {
	t.Helper()
	d := fresh(t)
	for n := range saved {
		saves(t, d, fine(uint64(n+1)), uint64(n+1))
	}
	if left != "" {
		is(t, "Write", d.Write("cfg-t", left), api.OK)
		is(t, "Sync", d.Sync("cfg-t"), api.OK)
		is(t, "SyncDir", d.SyncDir(), api.OK)
	}
	return d
}

// holds: are there the slots that there were (but perhaps the elder one), or the new one beside the newest?
func holds(before, now []slot.Kept, c config.Config) (asItWas, isNew bool) {
	newest := before[:min(1, len(before))]
	asItWas = slices.EqualFunc(now, before, same) || slices.EqualFunc(now, newest, same)
	isNew = len(now) > 0 && config.Same(now[0].Config, c) && slices.EqualFunc(now[1:], newest, same)
	return asItWas, isNew
}

func TestWhereverThePowerGoes(t *testing.T) { // P15.3: each step, each set of turns
	for saved := range 4 {
		for _, left := range []string{"", file.Seal(text(t, 50, fine(50))), strings.Repeat("junk", 100)} {
			for fuse := range 5 {
				for turns := range 4 {
					lost(t, saved, left, fuse, turns)
				}
			}
		}
	}
}

// lost: the power goes in a Save, or behind it.
func lost(t *testing.T, saved int, left string, fuse, turns int) {
	t.Helper()
	for _, mask := range []uint64{0, 1, 5, 1 << 63, 1<<63 | 2, math.MaxUint64} {
		d := begun(t, saved, left)
		before, _ := slot.Read(d)
		d.Fuse(fuse)
		k, e := slot.Save(d, fine(99))
		if (e == api.OK) != (fuse == 4) || e != api.OK && e != api.ErrPower || e != api.OK && k.Number != 0 {
			t.Fatalf("a fuse of %d: %v", fuse, e)
		}
		d.Crash([]bool{turns&1 == 1, turns&2 == 2}, []uint64{mask, ^mask, mask})
		now, e1 := slot.Read(d)
		asItWas, isNew := holds(before, now, fine(99))
		if e1 != api.OK || !asItWas && !isNew || e == api.OK && !isNew {
			t.Fatalf("%d saved, a fuse of %d, turns %b, mask %x: of versions %v, %v", saved, fuse, turns, mask, versions(now), e1)
		}
		wanted := uint64(1)
		if len(now) > 0 {
			wanted = now[0].Number + 1
		}
		is(t, "Clean", slot.Clean(d), api.OK)
		if _, e := d.Read("cfg-t"); e != api.ErrNone {
			t.Fatalf("cfg-t behind Clean: %v", e)
		}
		saves(t, d, fine(100), wanted)
	}
}

func TestPowerByChance(t *testing.T) { // P15.3, over many Saves and losses
	for seed := range int64(40) {
		r := rand.New(rand.NewSource(seed))
		d := fresh(t)
		var had []slot.Kept
		for n := range 25 {
			c := fine(uint64(n))
			d.Fuse(r.Intn(12) - 1)
			if r.Intn(4) == 0 {
				slot.Clean(d)
			}
			_, e := slot.Save(d, c)
			if e != api.OK || r.Intn(3) == 0 {
				d.Crash([]bool{r.Intn(2) == 0, r.Intn(2) == 0, r.Intn(2) == 0}, []uint64{r.Uint64(), r.Uint64(), r.Uint64()})
			}
			now, e1 := slot.Read(d)
			asItWas, isNew := holds(had, now, c)
			if e1 != api.OK || !asItWas && !isNew || e == api.OK && !isNew {
				t.Fatalf("seed %d, %d: of versions %v, %v, they were %v", seed, n, versions(now), e1, versions(had))
			}
			had = now
		}
	}
}

// memory: where a config's texts and lists stand.
func memory(c config.Config) []uintptr {
	var at []uintptr
	text := func(s string) {
		if s != "" {
			at = append(at, uintptr(unsafe.Pointer(unsafe.StringData(s))))
		}
	}
	at = append(at, uintptr(unsafe.Pointer(unsafe.SliceData(c.Listeners))), uintptr(unsafe.Pointer(unsafe.SliceData(c.Clusters))))
	for _, l := range c.Listeners {
		text(l.Name)
		at = append(at, uintptr(unsafe.Pointer(unsafe.SliceData(l.Routes))))
		for _, r := range l.Routes {
			text(r.Host)
			text(r.Path)
			text(r.Cluster)
		}
	}
	for _, x := range c.Clusters {
		text(x.Name)
		at = append(at, uintptr(unsafe.Pointer(unsafe.SliceData(x.Endpoints))))
	}
	return at
}

func TestMemory(t *testing.T) { // the rule of memory
	d := fresh(t)
	c := fine(1)
	full := c.Listeners[:2:2]
	c.Listeners = append(make([]config.Listener, 0, 8), full...)
	spare := c.Listeners[:3]
	spare[2].Name = "spare"
	first, _ := slot.Save(d, c)
	second, _ := slot.Save(d, c)
	one, _ := slot.Read(d)
	two, _ := slot.Read(d)
	s, _ := slot.Text(first)
	parsed, _ := slot.Parse(s)
	parts := []config.Config{c, first.Config, second.Config, one[0].Config, one[1].Config, two[0].Config, two[1].Config, parsed.Config}
	for i, a := range parts {
		for _, b := range parts[i+1:] {
			for _, at := range memory(b) {
				if slices.Contains(memory(a), at) {
					t.Errorf("config %d shares its memory", i)
				}
			}
		}
	}
	if !config.Same(c, fine(1)) || spare[2].Name != "spare" {
		t.Error("Save changes what is handed in")
	}
	c.Listeners[0].Name, first.Config.Clusters[0].Name = "changed", "changed"
	one[0].Config.Version, one[1].Config.Listeners[0].Routes[0].Host = 77, "changed"
	reads(t, "behind changes", d, kept(t, 2, fine(1)), kept(t, 1, fine(1)))
}
