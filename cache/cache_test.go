package cache_test

import (
	"crypto/sha256"
	"encoding/binary"
	"math"
	"reflect"
	"slices"
	"strings"
	"testing"
	"unsafe"

	"outrider/api"
	"outrider/cache"
	"outrider/config"
	"outrider/disk"
	"outrider/file"
	"outrider/ledger"
	"outrider/slot"
	"outrider/spot"
	"outrider/valid"
)

func place(a byte, port uint16) spot.Place { return spot.Place{IP: [4]byte{a, 0, 0, 1}, Port: port} }

// fine: a config that is, in new memory; configs of other ports have other prints.
func fine(port int) config.Config {
	return config.Config{
		Version:   uint64(1000 - port),
		Listeners: []config.Listener{{Name: "main", Place: place(1, uint16(port)), Routes: []config.Route{{Host: "a.b", Path: "/", Cluster: "web", Idle: 300}}}},
		Clusters:  []config.Cluster{{Name: "web", Endpoints: []config.Endpoint{{Place: place(10, 8080), Weight: 1}}}},
	}
}

// broken: one that isn't fine.
func broken() config.Config {
	c := fine(1)
	c.Listeners[0].Routes[0].Cluster = "none"
	return c
}

// written: a config's bytes.
func written(c config.Config) string {
	s, e := c.Bytes()
	if e != api.OK {
		panic(e)
	}
	return s
}

// printOf: the print of one of these configs, by hand.
func printOf(c config.Config) api.Print {
	c.Version = 0
	sum := sha256.Sum256([]byte(written(c)))
	return api.Print(sum[:16])
}

func kept(n uint64, c config.Config) slot.Kept {
	return slot.Kept{Number: n, Config: c, Print: printOf(c)}
}

// number: what a slot's text begins with.
func number(n uint64) string { return string(binary.BigEndian.AppendUint64(nil, n)) }

func entry(p api.Print, deaths int, held bool) ledger.Entry {
	return ledger.Entry{Print: p, Deaths: deaths, Held: held}
}

func is[T comparable](t *testing.T, what string, got, wanted T) {
	t.Helper()
	if got != wanted {
		t.Errorf("%s: %v, wanted %v", what, got, wanted)
	}
}

func same(a, b slot.Kept) bool {
	return a.Number == b.Number && a.Print == b.Print && config.Same(a.Config, b.Config)
}

func ports(l []slot.Kept) []int {
	var all []int
	for _, k := range l {
		all = append(all, 1000-int(k.Config.Version))
	}
	return all
}

func fresh(t *testing.T) *disk.Disk {
	t.Helper()
	d, e := disk.New(api.MaxDisk)
	is(t, "disk.New", e, api.OK)
	return d
}

func open(t *testing.T, d *disk.Disk, k int) *cache.Cache {
	t.Helper()
	c, e := cache.Open(d, k)
	if e != api.OK || c == nil {
		t.Fatalf("Open: %v", e)
	}
	return c
}

// put: a text by hand, sealed.
func put(t *testing.T, d *disk.Disk, name, s string) {
	t.Helper()
	is(t, "file.Save", file.Save(d, name, "by", s), api.OK)
}

func slotsAre(t *testing.T, what string, c *cache.Cache, wanted ...slot.Kept) {
	t.Helper()
	if l := c.Slots(); !slices.EqualFunc(l, wanted, same) {
		t.Errorf("%s: slots of ports %v, wanted %v", what, ports(l), ports(wanted))
	}
}

func allAre(t *testing.T, what string, c *cache.Cache, wanted ...ledger.Entry) {
	t.Helper()
	if l := c.All(); !slices.Equal(l, wanted) {
		t.Errorf("%s: %v, wanted %v", what, l, wanted)
	}
}

func bestIs(t *testing.T, what string, c *cache.Cache, wanted slot.Kept) {
	t.Helper()
	if k, ok := c.Best(); !ok || !same(k, wanted) {
		t.Errorf("%s: best is %d of number %d, %v, wanted %d", what, ports([]slot.Kept{k}), k.Number, ok, wanted.Number)
	}
}

func noBest(t *testing.T, what string, c *cache.Cache) {
	t.Helper()
	if k, ok := c.Best(); ok || !reflect.DeepEqual(k, slot.Kept{}) {
		t.Errorf("%s: best is of number %d, %v", what, k.Number, ok)
	}
}

func persists(t *testing.T, c *cache.Cache, x config.Config, n uint64) slot.Kept {
	t.Helper()
	k, e := c.Persist(x)
	if e != api.OK || !same(k, kept(n, x)) {
		t.Errorf("Persist: number %d, %v, wanted %d", k.Number, e, n)
	}
	return k
}

func refuses(t *testing.T, what string, c *cache.Cache, x config.Config, wanted api.Errno) {
	t.Helper()
	k, e := c.Persist(x)
	if e != wanted || !reflect.DeepEqual(k, slot.Kept{}) {
		t.Errorf("%s: number %d, %v, wanted %v", what, k.Number, e, wanted)
	}
}

// down takes the power.
func down(t *testing.T, d *disk.Disk) {
	t.Helper()
	d.Fuse(0)
	is(t, "a step", d.SyncDir(), api.ErrPower)
}

func TestOpen(t *testing.T) { // P17.1
	d := fresh(t)
	for _, k := range []int{1, 2, 128, 254, 255} {
		c := open(t, d, k)
		slotsAre(t, "a new one", c)
		allAre(t, "a new one", c)
		noBest(t, "a new one", c)
		is(t, "a new one's entry", c.Entry(api.Print{5}), entry(api.Print{5}, 0, false))
	}
	is(t, "steps of a new one", d.Steps(), 0)
	put(t, d, "cfg-0", number(8)+written(fine(1)))
	put(t, d, "cfg-1", number(9)+written(fine(2)))
	var l ledger.Ledger
	l, _ = l.Died(printOf(fine(2)), 2)
	l, _ = l.Died(api.Print{}, 1)
	put(t, d, "led", l.Text())
	for _, s := range []string{"cfg-t", "led-t", "cfg-2", "x"} {
		is(t, "Write", d.Write(s, "left over"), api.OK)
	}
	before := d.Steps()
	c := open(t, d, 2)
	is(t, "what stays", strings.Join(d.Names(), " "), "cfg-0 cfg-1 cfg-2 led x")
	is(t, "steps", d.Steps(), before+4)
	is(t, "turns", d.Pending(), 0)
	slotsAre(t, "what was there", c, kept(9, fine(2)), kept(8, fine(1)))
	allAre(t, "what was there", c, entry(api.Print{}, 1, true), entry(printOf(fine(2)), 1, false))
	bestIs(t, "what was there", c, kept(9, fine(2)))
	put(t, d, "cfg-0", "not a slot's")
	slotsAre(t, "with one that doesn't count", open(t, d, 2), kept(9, fine(2)))
	put(t, d, "cfg-1", number(3)+written(broken()))
	slotsAre(t, "with none that counts", open(t, d, 2))
	is(t, "steps without anything left over", d.Steps(), before+4+8)
}

func TestOpenErrors(t *testing.T) { // P17.1: the first one
	told := func(what string, d *disk.Disk, k int, wanted api.Errno) {
		t.Helper()
		if c, e := cache.Open(d, k); c != nil || e != wanted {
			t.Errorf("%s: %v, wanted %v", what, e, wanted)
		}
	}
	d := fresh(t)
	is(t, "Write", d.Write("led", "broken"), api.OK)
	is(t, "Write", d.Write("cfg-t", "left over"), api.OK)
	before := d.Steps()
	for _, k := range []int{0, -1, 256, 257, 1 << 32, 1<<32 + 1, math.MinInt, math.MaxInt} {
		told("k", d, k, api.ErrRange)
		told("k, of nil", nil, k, api.ErrRange)
	}
	is(t, "steps of what is refused", d.Steps(), before)
	told("nil", nil, 1, api.ErrNil)
	told("what is no ledger", d, 1, api.ErrBroken)
	is(t, "cleaned ahead of that", strings.Join(d.Names(), " "), "led")
	is(t, "Write", d.Write("cfg-t", ""), api.OK)
	is(t, "Write", d.Write("led-t", ""), api.OK)
	told("what is no ledger, and both to clean", d, 1, api.ErrBroken)
	is(t, "cleaned ahead of that", strings.Join(d.Names(), " "), "led")
	down(t, d)
	told("without power", d, 1, api.ErrPower)
	told("without power, k", d, 0, api.ErrRange)
	empty := fresh(t)
	down(t, empty)
	told("without power, of an empty disk", empty, 1, api.ErrPower)
}

func TestOpenWithAFuse(t *testing.T) { // P17.1, P17.3: cfg-t goes first, led-t behind it
	for fuse, wanted := range []string{"cfg-t led-t", "cfg-t led-t", "led-t", "led-t", ""} {
		d := fresh(t)
		is(t, "Write", d.Write("led-t", "left over"), api.OK)
		is(t, "Write", d.Write("cfg-t", "left over"), api.OK)
		is(t, "SyncDir", d.SyncDir(), api.OK)
		d.Fuse(fuse)
		c, e := cache.Open(d, 1)
		if (e == api.OK) != (fuse == 4) || (c == nil) != (fuse < 4) || fuse < 4 && e != api.ErrPower {
			t.Errorf("a fuse of %d: %v", fuse, e)
		}
		d.Crash(nil, nil)
		is(t, "what is left over", strings.Join(d.Names(), " "), wanted)
		slotsAre(t, "again", open(t, d, 1))
	}
}

func TestPersist(t *testing.T) { // P17.2
	d := fresh(t)
	c := open(t, d, 1)
	persists(t, c, fine(1), 1)
	slotsAre(t, "the first", c, kept(1, fine(1)))
	for n := 2; n < 8; n++ {
		before := d.Steps()
		persists(t, c, fine(n), uint64(n))
		is(t, "steps", d.Steps(), before+4)
		slotsAre(t, "one more", c, kept(uint64(n), fine(n)), kept(uint64(n-1), fine(n-1)))
		bestIs(t, "one more", c, kept(uint64(n), fine(n)))
		slotsAre(t, "opened again", open(t, d, 3), kept(uint64(n), fine(n)), kept(uint64(n-1), fine(n-1)))
	}
	persists(t, c, fine(7), 8)
	slotsAre(t, "the same twice", c, kept(8, fine(7)), kept(7, fine(7)))
	persists(t, c, config.Config{}, 9)
	slotsAre(t, "the empty one", c, kept(9, config.Config{}), kept(8, fine(7)))
	allAre(t, "the ledger", c)
}

func TestPersistBesideWhatWasThere(t *testing.T) { // P17.2: beside the newest that there was
	for _, x := range []struct{ zero, one string }{
		{number(5) + written(fine(1)), number(6) + written(fine(2))},
		{number(6) + written(fine(2)), number(5) + written(fine(1))},
		{number(6) + written(fine(2)), ""},
		{"broken", number(6) + written(fine(2))},
		{number(6) + written(fine(2)), number(6) + written(fine(1))},
	} {
		d := fresh(t)
		put(t, d, "cfg-0", x.zero)
		put(t, d, "cfg-1", x.one)
		c := open(t, d, 1)
		persists(t, c, fine(3), 7)
		slotsAre(t, "one more", c, kept(7, fine(3)), kept(6, fine(2)))
		slotsAre(t, "opened again", open(t, d, 1), kept(7, fine(3)), kept(6, fine(2)))
	}
}

func TestPersistErrors(t *testing.T) { // P17.2: the first that holds, and nothing else is known
	d := fresh(t)
	c := open(t, d, 1)
	p := printOf(fine(1))
	refuses(t, "not fine", c, broken(), api.ErrForm)
	many := fine(1)
	many.Clusters = make([]config.Cluster, 9)
	refuses(t, "too many", c, many, api.ErrForm)
	is(t, "steps of what is refused", d.Steps(), 0)
	persists(t, c, fine(2), 1)
	is(t, "Died", c.Died(p), api.OK)
	before := d.Steps()
	refuses(t, "held", c, fine(1), api.ErrHeld)
	turned := fine(1)
	turned.Version = 77
	refuses(t, "held, of another version", c, turned, api.ErrHeld)
	refuses(t, "not fine", c, broken(), api.ErrForm)
	is(t, "steps of what is refused", d.Steps(), before)
	slotsAre(t, "behind all that", c, kept(1, fine(2)))
	put(t, d, "cfg-1", number(math.MaxUint64)+written(fine(3)))
	c = open(t, d, 1)
	refuses(t, "no number", c, fine(4), api.ErrRange)
	refuses(t, "no number, held", c, fine(1), api.ErrHeld)
	slotsAre(t, "no number", c, kept(math.MaxUint64, fine(3)), kept(1, fine(2)))
	down(t, d)
	refuses(t, "without power", c, fine(4), api.ErrPower)
	refuses(t, "without power, held", c, fine(1), api.ErrHeld)
	refuses(t, "without power, not fine", c, broken(), api.ErrForm)
	slotsAre(t, "without power", c, kept(math.MaxUint64, fine(3)), kept(1, fine(2)))
	bestIs(t, "without power", c, kept(math.MaxUint64, fine(3)))
	allAre(t, "without power", c, entry(p, 1, true))
	is(t, "without power", c.Entry(p), entry(p, 1, true))
}

func TestPersistOfWhatIsHeldAndNotFine(t *testing.T) { // P17.2: that it isn't fine is told first
	c := open(t, fresh(t), 1)
	many := fine(1)
	many.Clusters = make([]config.Cluster, 9) // it has no print
	is(t, "Died", c.Died(printOf(broken())), api.OK)
	is(t, "Died", c.Died(api.Print{}), api.OK)
	refuses(t, "not fine", c, broken(), api.ErrForm)
	refuses(t, "too many", c, many, api.ErrForm)
}

func TestPersistOfWhatIsNotHeld(t *testing.T) { // P17.2: deaths alone don't hold
	c := open(t, fresh(t), 3)
	p := printOf(fine(1))
	is(t, "Died", c.Died(p), api.OK)
	is(t, "Died", c.Died(p), api.OK)
	persists(t, c, fine(1), 1)
	is(t, "Died", c.Died(p), api.OK)
	refuses(t, "held", c, fine(1), api.ErrHeld)
	is(t, "Ready", c.Ready(p), api.OK)
	refuses(t, "held, though it was ready", c, fine(1), api.ErrHeld)
	is(t, "Clear", c.Clear(p), api.OK)
	persists(t, c, fine(1), 2)
}

func TestNothingElseIsKnown(t *testing.T) { // P17.2: of what the disk refused
	size := len(file.Seal(number(1) + written(fine(1))))
	small, _ := disk.New(2*size + 20)
	c := open(t, small, 1)
	persists(t, c, fine(1), 1)
	persists(t, c, fine(2), 2)
	refuses(t, "no room", c, fine(3), api.ErrSpace)
	is(t, "no room", c.Died(api.Print{1}), api.ErrSpace)
	is(t, "no room", c.Entry(api.Print{1}), entry(api.Print{1}, 0, false))
	slotsAre(t, "no room", c, kept(2, fine(2)), kept(1, fine(1)))
	allAre(t, "no room", c)
	for fuse := range 4 {
		d := fresh(t)
		c := open(t, d, 2)
		persists(t, c, fine(1), 1)
		persists(t, c, fine(2), 2)
		is(t, "Died", c.Died(api.Print{1}), api.OK)
		d.Fuse(fuse)
		refuses(t, "a fuse", c, fine(3), api.ErrPower)
		slotsAre(t, "a fuse", c, kept(2, fine(2)), kept(1, fine(1)))
		d.Crash(nil, nil)
		for _, f := range []func(api.Print) api.Errno{c.Died, c.Ready, c.Clear} {
			d.Fuse(fuse)
			is(t, "a fuse", f(api.Print{1}), api.ErrPower)
			is(t, "without power", f(api.Print{1}), api.ErrPower)
			allAre(t, "a fuse", c, entry(api.Print{1}, 1, false))
			d.Crash(nil, nil)
		}
		persists(t, c, fine(4), 3)
		slotsAre(t, "with power again", c, kept(3, fine(4)), kept(2, fine(2)))
	}
}

func TestDied(t *testing.T) { // P17.2, P4
	for _, k := range []int{1, 2, 3, 255} {
		d := fresh(t)
		c := open(t, d, k)
		for n := 1; n <= 258; n++ {
			before := d.Steps()
			is(t, "Died", c.Died(api.Print{7}), api.OK)
			wanted := entry(api.Print{7}, min(n, 255), n >= k)
			is(t, "Entry", c.Entry(api.Print{7}), wanted)
			allAre(t, "All", c, wanted)
			allAre(t, "opened again", open(t, d, k), wanted)
			steps := 4
			if n > 255 { // it is the same ledger then
				steps = 0
			}
			is(t, "steps", d.Steps(), before+steps)
		}
	}
}

func TestReadyAndClear(t *testing.T) { // P17.2
	d := fresh(t)
	c := open(t, d, 2)
	one, two := api.Print{1}, api.Print{2}
	for _, p := range []api.Print{two, one, two} {
		is(t, "Died", c.Died(p), api.OK)
	}
	turn := func(what string, f func(api.Print) api.Errno, p api.Print, steps int, wanted ...ledger.Entry) {
		t.Helper()
		before := d.Steps()
		is(t, what, f(p), api.OK)
		allAre(t, what, c, wanted...)
		allAre(t, what+", opened again", open(t, d, 2), wanted...)
		is(t, what+", steps", d.Steps(), before+steps)
	}
	turn("Ready of another", c.Ready, api.Print{3}, 0, entry(one, 1, false), entry(two, 2, true))
	turn("Clear of another", c.Clear, api.Print{3}, 0, entry(one, 1, false), entry(two, 2, true))
	turn("Ready of what is held", c.Ready, two, 4, entry(one, 1, false), entry(two, 0, true))
	turn("Ready of it again", c.Ready, two, 0, entry(one, 1, false), entry(two, 0, true))
	turn("Ready", c.Ready, one, 4, entry(two, 0, true))
	turn("Ready again", c.Ready, one, 0, entry(two, 0, true))
	turn("Died of what is held", c.Died, two, 4, entry(two, 1, true))
	turn("Clear", c.Clear, two, 4)
	turn("Clear again", c.Clear, two, 0)
	turn("Died from the beginning", c.Died, two, 4, entry(two, 1, false))
	down(t, d)
	is(t, "without power, of the same ledger", c.Ready(one), api.OK)
	is(t, "without power, of the same ledger", c.Clear(one), api.OK)
	is(t, "without power", c.Ready(two), api.ErrPower)
}

func TestAFullLedger(t *testing.T) { // P17.2: layer 16's error
	d := fresh(t)
	c := open(t, d, 1)
	var wanted []ledger.Entry
	for n := range api.MaxHeld {
		is(t, "Died", c.Died(api.Print{byte(n)}), api.OK)
		wanted = append(wanted, entry(api.Print{byte(n)}, 1, true))
	}
	before := d.Steps()
	is(t, "one more", c.Died(api.Print{200}), api.ErrFull)
	is(t, "steps of what is refused", d.Steps(), before)
	allAre(t, "all held", c, wanted...)
	is(t, "Clear", c.Clear(api.Print{3}), api.OK)
	is(t, "one more", c.Died(api.Print{200}), api.OK)
	wanted = append(slices.Delete(wanted, 3, 4), entry(api.Print{200}, 1, true))
	allAre(t, "one cleared", c, wanted...)
	allAre(t, "opened again", open(t, d, 1), wanted...)
}

func TestBest(t *testing.T) { // P17.2
	c := open(t, fresh(t), 1)
	one, two := printOf(fine(1)), printOf(fine(2))
	persists(t, c, fine(1), 1)
	bestIs(t, "one alone", c, kept(1, fine(1)))
	is(t, "Died", c.Died(one), api.OK)
	noBest(t, "one alone, held", c)
	persists(t, c, fine(2), 2)
	bestIs(t, "the elder is held", c, kept(2, fine(2)))
	is(t, "Died", c.Died(two), api.OK)
	noBest(t, "both held", c)
	is(t, "Clear", c.Clear(one), api.OK)
	bestIs(t, "the newest is held", c, kept(1, fine(1)))
	is(t, "Clear", c.Clear(two), api.OK)
	bestIs(t, "neither is held", c, kept(2, fine(2)))
	is(t, "Ready", c.Ready(two), api.OK)
	is(t, "Died of another", c.Died(api.Print{9}), api.OK)
	bestIs(t, "another is held", c, kept(2, fine(2)))
	later := fine(2)
	later.Version = 5
	persists(t, c, later, 3)
	is(t, "Died", c.Died(two), api.OK)
	noBest(t, "two versions of what is held", c)
	slotsAre(t, "two versions of what is held", c, kept(3, later), kept(2, fine(2)))
}

func TestBestByDeathsInARow(t *testing.T) { // P17.2, P4: below k nothing is held back
	c := open(t, fresh(t), 3)
	p := printOf(fine(2))
	persists(t, c, fine(1), 1)
	persists(t, c, fine(2), 2)
	for range 2 {
		is(t, "Died", c.Died(p), api.OK)
		is(t, "Died", c.Died(p), api.OK)
		bestIs(t, "two deaths", c, kept(2, fine(2)))
		is(t, "Ready", c.Ready(p), api.OK)
	}
	for range 3 {
		is(t, "Died", c.Died(p), api.OK)
	}
	bestIs(t, "three deaths", c, kept(1, fine(1)))
	is(t, "Ready", c.Ready(p), api.OK)
	bestIs(t, "held, though it was ready", c, kept(1, fine(1)))
}

func TestNil(t *testing.T) { // P17.2
	var c *cache.Cache
	refuses(t, "nil", c, fine(1), api.ErrNil)
	refuses(t, "nil, not fine", c, broken(), api.ErrNil)
	noBest(t, "nil", c)
	slotsAre(t, "nil", c)
	allAre(t, "nil", c)
	is(t, "Died", c.Died(api.Print{1}), api.ErrNil)
	is(t, "Ready", c.Ready(api.Print{1}), api.ErrNil)
	is(t, "Clear", c.Clear(api.Print{1}), api.ErrNil)
	is(t, "Entry", c.Entry(api.Print{1}), ledger.Entry{})
}

// memory: where a config's texts and lists stand.
func memory(c config.Config) []unsafe.Pointer {
	l, x := c.Listeners[0], c.Clusters[0]
	at := []unsafe.Pointer{unsafe.Pointer(&c.Listeners[0]), unsafe.Pointer(&l.Routes[0]), unsafe.Pointer(&c.Clusters[0]), unsafe.Pointer(&x.Endpoints[0])}
	for _, s := range []string{l.Name, l.Routes[0].Host, l.Routes[0].Path, l.Routes[0].Cluster, x.Name} {
		at = append(at, unsafe.Pointer(unsafe.StringData(s)))
	}
	return at
}

func TestMemory(t *testing.T) { // the rule of memory
	d := fresh(t)
	c := open(t, d, 1)
	x := fine(1)
	x.Listeners = append(make([]config.Listener, 0, 8), x.Listeners...)
	spare := x.Listeners[:2]
	spare[1].Name = "spare"
	first, second := persists(t, c, x, 1), persists(t, c, x, 2)
	best, _ := c.Best()
	again, _ := c.Best()
	one, two := c.Slots(), c.Slots()
	other := open(t, d, 1).Slots()
	l := []config.Config{x, first.Config, second.Config, best.Config, again.Config, one[0].Config, one[1].Config, two[0].Config, two[1].Config, other[0].Config, other[1].Config}
	for i, a := range l {
		for _, b := range l[i+1:] {
			if slices.ContainsFunc(memory(b), func(at unsafe.Pointer) bool { return slices.Contains(memory(a), at) }) {
				t.Errorf("config %d shares its memory", i)
			}
		}
	}
	if !config.Same(x, fine(1)) || spare[1].Name != "spare" {
		t.Error("Persist changes what is handed in")
	}
	is(t, "Died", c.Died(api.Print{1}), api.OK)
	deaths := c.All()
	deaths[0] = ledger.Entry{}
	x.Listeners[0].Name, first.Config.Clusters[0].Name, best.Config.Listeners[0].Routes[0].Host = "changed", "changed", "changed"
	second.Config.Clusters[0].Endpoints[0].Weight = 77
	one[0], one[1].Config.Listeners[0].Place = slot.Kept{}, spot.Place{}
	slotsAre(t, "behind changes", c, kept(2, fine(1)), kept(1, fine(1)))
	bestIs(t, "behind changes", c, kept(2, fine(1)))
	allAre(t, "behind changes", c, entry(api.Print{1}, 1, true))
}

func TestWhatIsBest(t *testing.T) { // P17.3: fine, persisted, not held, also of what stands on a disk by hand
	d := fresh(t)
	put(t, d, "cfg-0", number(9)+written(broken()))
	put(t, d, "cfg-1", number(1)+written(fine(1)))
	c := open(t, d, 1)
	bestIs(t, "the newest isn't fine", c, kept(1, fine(1)))
	k, _ := c.Best()
	is(t, "fine", valid.Fine(k.Config), true)
}
