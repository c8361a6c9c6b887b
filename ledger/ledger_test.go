package ledger_test

import (
	"bytes"
	"encoding/binary"
	"math"
	"math/rand"
	"slices"
	"strings"
	"testing"

	"outrider/api"
	"outrider/disk"
	"outrider/file"
	"outrider/ledger"
)

// Writings by hand, so that these tests don't lean on package codec.

func num(n uint64) string { return "\x01" + string(binary.AppendUvarint(nil, n)) }

func text(s string) string {
	return "\x02" + string(binary.AppendUvarint(nil, uint64(len(s)))) + s
}

func list(l ...string) string {
	return "\x03" + string(binary.AppendUvarint(nil, uint64(len(l)))) + strings.Join(l, "")
}

// row: an entry's writing.
func row(x ledger.Entry) string {
	held := uint64(0)
	if x.Held {
		held = 1
	}
	return list(text(string(x.Print[:])), num(uint64(x.Deaths)), num(held))
}

// written: a ledger's text.
func written(l []ledger.Entry) string {
	var rows []string
	for _, x := range l {
		rows = append(rows, row(x))
	}
	return list(rows...)
}

func entry(first byte, deaths int, held bool) ledger.Entry {
	return ledger.Entry{Print: api.Print{first}, Deaths: deaths, Held: held}
}

// of: the ledger with those entries.
func of(t *testing.T, l ...ledger.Entry) ledger.Ledger {
	t.Helper()
	m, e := ledger.Parse(written(l))
	if e != api.OK {
		t.Fatalf("%v: %v", l, e)
	}
	return m
}

func is(t *testing.T, what string, got, wanted api.Errno) {
	t.Helper()
	if got != wanted {
		t.Errorf("%s: %v, wanted %v", what, got, wanted)
	}
}

// has holds all entries of a ledger against those that are wanted.
func has(t *testing.T, what string, l ledger.Ledger, wanted ...ledger.Entry) {
	t.Helper()
	if got := l.All(); !slices.Equal(got, wanted) {
		t.Errorf("%s: %v, wanted %v", what, got, wanted)
	}
}

func died(t *testing.T, l ledger.Ledger, p api.Print, k int) ledger.Ledger {
	t.Helper()
	m, e := l.Died(p, k)
	is(t, "Died", e, api.OK)
	return m
}

func fresh(t *testing.T) *disk.Disk {
	t.Helper()
	d, e := disk.New(api.MaxDisk)
	if e != api.OK {
		t.Fatal(e)
	}
	return d
}

// full: 64 entries; the n-th print begins with 2n, so that others may stand between.
func full(held func(n int) bool) []ledger.Entry {
	var l []ledger.Entry
	for n := range api.MaxHeld {
		l = append(l, entry(byte(2*n), n%200+1, held(n)))
	}
	return l
}

func always(int) bool { return true }
func never(int) bool  { return false }

func TestGet(t *testing.T) { // P16.1
	var none ledger.Ledger
	has(t, "the zero one", none)
	for _, p := range []api.Print{{}, {1}, {15: 1}} {
		if x := none.Get(p); x != (ledger.Entry{Print: p}) {
			t.Errorf("of the zero one: %v", x)
		}
	}
	entries := []ledger.Entry{{Print: api.Print{}, Deaths: 3}, {Print: api.Print{15: 1}, Held: true}, entry(1, 255, true), entry(255, 7, false)}
	l := of(t, entries...)
	for _, x := range entries {
		if got := l.Get(x.Print); got != x {
			t.Errorf("%v, wanted %v", got, x)
		}
	}
	for _, p := range []api.Print{{15: 2}, {2}, {1, 15: 1}, {254, 255}, {255, 1}} {
		if x := l.Get(p); x != (ledger.Entry{Print: p}) {
			t.Errorf("of another print: %v", x)
		}
	}
	has(t, "All", l, entries...)
}

func TestDied(t *testing.T) { // P16.1, P16.3
	for _, k := range []int{1, 2, 3, 100, 254, 255} {
		var l ledger.Ledger
		for n := 1; n <= 300; n++ {
			l = died(t, l, api.Print{5}, k)
			has(t, "one death more", l, entry(5, min(n, 255), n >= k))
		}
	}
	l := of(t, entry(1, 1, false), entry(2, 200, true), entry(3, 0, true), entry(4, 255, false))
	has(t, "fewer than k", died(t, l, api.Print{1}, 3), entry(1, 2, false), entry(2, 200, true), entry(3, 0, true), entry(4, 255, false))
	has(t, "k", died(t, l, api.Print{1}, 2), entry(1, 2, true), entry(2, 200, true), entry(3, 0, true), entry(4, 255, false))
	has(t, "more than k", died(t, l, api.Print{1}, 1), entry(1, 2, true), entry(2, 200, true), entry(3, 0, true), entry(4, 255, false))
	has(t, "of what was held", died(t, l, api.Print{2}, 255), entry(1, 1, false), entry(2, 201, true), entry(3, 0, true), entry(4, 255, false))
	has(t, "of what was held without deaths", died(t, l, api.Print{3}, 255), entry(1, 1, false), entry(2, 200, true), entry(3, 1, true), entry(4, 255, false))
	has(t, "of as many as may be", died(t, l, api.Print{4}, 255), entry(1, 1, false), entry(2, 200, true), entry(3, 0, true), entry(4, 255, true))
}

func TestDiedOrder(t *testing.T) { // P16.1: by rising prints, all 16 bytes of them
	var l ledger.Ledger
	prints := []api.Print{{5}, {1, 15: 9}, {}, {255}, {1, 15: 8}, {1, 1}, {128}, {127, 255}, {15: 1}}
	var wanted []ledger.Entry
	for _, p := range prints {
		l = died(t, l, p, 2)
		wanted = append(wanted, ledger.Entry{Print: p, Deaths: 1})
		slices.SortFunc(wanted, func(a, b ledger.Entry) int { return bytes.Compare(a.Print[:], b.Print[:]) })
		has(t, "one print more", l, wanted...)
	}
}

func TestDiedErrors(t *testing.T) { // P16.1
	refused := func(what string, l ledger.Ledger, p api.Print, k int, wanted api.Errno) {
		t.Helper()
		m, e := l.Died(p, k)
		is(t, what, e, wanted)
		has(t, what, m)
	}
	some, held := of(t, entry(1, 1, false)), of(t, full(always)...)
	for _, k := range []int{0, -1, 256, 257, math.MinInt, math.MaxInt} {
		refused("of none", ledger.Ledger{}, api.Print{1}, k, api.ErrRange)
		refused("of some", some, api.Print{1}, k, api.ErrRange)
		refused("of a full one", held, api.Print{1}, k, api.ErrRange)
	}
	for _, k := range []int{1, 2, 255} {
		refused("of a full one", held, api.Print{1}, k, api.ErrFull)
		refused("of a full one, the least print", of(t, append(full(always)[1:], entry(200, 1, true))...), api.Print{}, k, api.ErrFull)
		refused("of a full one, the greatest print", held, api.Print{255}, k, api.ErrFull)
	}
	has(t, "what refused", held, full(always)...)
}

func TestDiedOfAFullOne(t *testing.T) { // P16.1: the first that isn't held goes
	for _, first := range []int{0, 1, 31, 62, 63} {
		entries := full(func(n int) bool { return n < first })
		l := of(t, entries...)
		for _, p := range []api.Print{{0, 1}, {61}, {127}, {255}} {
			wanted := slices.Delete(slices.Clone(entries), first, first+1)
			wanted = append(wanted, ledger.Entry{Print: p, Deaths: 1})
			slices.SortFunc(wanted, func(a, b ledger.Entry) int { return bytes.Compare(a.Print[:], b.Print[:]) })
			has(t, "of another print", died(t, l, p, 2), wanted...)
			at := slices.Index(wanted, ledger.Entry{Print: p, Deaths: 1})
			wanted[at].Held = true
			has(t, "of another print, held", died(t, l, p, 1), wanted...)
		}
		has(t, "that ledger", l, entries...)
		wanted := slices.Clone(entries)
		wanted[first].Deaths++
		has(t, "of what has an entry", died(t, l, wanted[first].Print, 255), wanted...)
	}
	held := full(always)
	l := of(t, held...)
	held[10].Deaths++
	has(t, "all held, of what has an entry", died(t, l, held[10].Print, 255), held...)
	least := of(t, full(never)[1:]...) // 63
	least = died(t, least, api.Print{}, 255)
	if len(least.All()) != 64 {
		t.Errorf("%d entries", len(least.All()))
	}
	has(t, "the first is the least print", died(t, least, api.Print{9}, 255), slices.Insert(full(never)[1:], 4, entry(9, 1, false))...)
}

func TestReady(t *testing.T) { // P16.1
	entries := []ledger.Entry{entry(1, 3, false), entry(2, 3, true), entry(3, 0, true), entry(4, 255, false)}
	l := of(t, entries...)
	has(t, "of what isn't held", l.Ready(api.Print{1}), entries[1:]...)
	has(t, "of what is held", l.Ready(api.Print{2}), entries[0], entry(2, 0, true), entries[2], entries[3])
	has(t, "of what has no deaths", l.Ready(api.Print{3}), entries...)
	has(t, "of the last one", l.Ready(api.Print{4}), entries[:3]...)
	has(t, "of another", l.Ready(api.Print{5}), entries...)
	has(t, "of the zero one", ledger.Ledger{}.Ready(api.Print{5}))
	has(t, "of one alone", of(t, entries[0]).Ready(api.Print{1}))
	m := died(t, l.Ready(api.Print{4}), api.Print{4}, 2)
	has(t, "from the beginning again", m, entries[0], entries[1], entries[2], entry(4, 1, false))
}

func TestClear(t *testing.T) { // P16.1
	entries := []ledger.Entry{entry(1, 3, false), entry(2, 3, true), entry(3, 0, true), entry(4, 255, false)}
	l := of(t, entries...)
	for i, x := range entries {
		m := l.Clear(x.Print)
		has(t, "Clear", m, slices.Delete(slices.Clone(entries), i, i+1)...)
		if m.Get(x.Print) != (ledger.Entry{Print: x.Print}) {
			t.Errorf("cleared: %v", m.Get(x.Print))
		}
	}
	has(t, "of another", l.Clear(api.Print{5}), entries...)
	has(t, "of the zero one", ledger.Ledger{}.Clear(api.Print{5}))
	has(t, "of one alone", of(t, entries[1]).Clear(api.Print{2}))
}

func TestText(t *testing.T) { // P16.2
	for _, l := range [][]ledger.Entry{
		nil,
		{entry(0, 1, false)},
		{{Print: api.Print{1, 2, 3, 15: 16}, Deaths: 128, Held: true}, entry(7, 0, true), entry(8, 255, false), entry(255, 127, true)},
		full(always), full(never), full(func(n int) bool { return n%3 == 0 }),
	} {
		m, e := ledger.Parse(written(l))
		is(t, "Parse", e, api.OK)
		has(t, "Parse", m, l...)
		if m.Text() != written(l) {
			t.Errorf("%q, wanted %q", m.Text(), written(l))
		}
	}
	if s := (ledger.Ledger{}).Text(); s != "\x03\x00" {
		t.Errorf("of the zero one: %q", s)
	}
	l := died(t, ledger.Ledger{}, api.Print{1, 15: 2}, 1)
	if s := l.Text(); s != "\x03\x01\x03\x03\x02\x10\x01\x00\x00\x00\x00\x00\x00\x00\x00\x00\x00\x00\x00\x00\x00\x02\x01\x01\x01\x01" {
		t.Errorf("of one entry: %q", s)
	}
}

func TestParse(t *testing.T) { // P16.2: what is no ledger's text
	broken := func(what, s string) {
		t.Helper()
		l, e := ledger.Parse(s)
		is(t, what, e, api.ErrBroken)
		has(t, what, l)
	}
	p := text(strings.Repeat("p", 16))
	whole := written([]ledger.Entry{entry(1, 200, false), entry(2, 0, true)})
	for i := range len(whole) {
		broken("a beginning", whole[:i])
		broken("an end", whole[i+1:])
	}
	broken("one byte more", whole+"\x00")
	broken("a list in a list", list(whole))
	broken("a number", num(0))
	broken("a text", text(""))
	broken("an entry alone", list(p, num(1), num(1)))
	broken("numbers for entries", list(num(1)))
	broken("a text for an entry", list(text("x")))
	broken("no items", list(list()))
	broken("two items", list(list(p, num(1))))
	broken("four items", list(list(p, num(1), num(1), num(1))))
	broken("a print of 15 bytes", list(list(text(strings.Repeat("p", 15)), num(1), num(1))))
	broken("a print of 17 bytes", list(list(text(strings.Repeat("p", 17)), num(1), num(1))))
	broken("a print of no bytes", list(list(text(""), num(1), num(1))))
	broken("a number for a print", list(list(num(16), num(1), num(1))))
	broken("a list for a print", list(list(list(), num(1), num(1))))
	broken("256 deaths", list(list(p, num(256), num(1))))
	broken("2^32 + 1 deaths", list(list(p, num(1<<32+1), num(1))))
	broken("2^64 - 1 deaths", list(list(p, num(math.MaxUint64), num(1))))
	broken("a text for deaths", list(list(p, text("1"), num(1))))
	broken("a list for deaths", list(list(p, list(), num(1))))
	broken("held twice", list(list(p, num(1), num(2))))
	broken("held 2^63 times", list(list(p, num(1), num(1<<63))))
	broken("a text for held", list(list(p, num(1), text(""))))
	broken("a list for held", list(list(p, num(1), list())))
	broken("no deaths, not held", list(list(p, num(0), num(0))))
	broken("no deaths, not held, behind others", list(row(entry(1, 1, false)), row(entry(2, 0, false))))
	broken("a number in more bytes than need be", list(list(p, "\x01\x81\x00", num(1))))
	broken("one print twice", written([]ledger.Entry{entry(1, 1, false), entry(1, 1, false)}))
	broken("one print, with other deaths", written([]ledger.Entry{entry(1, 1, false), entry(1, 2, true)}))
	broken("falling prints", written([]ledger.Entry{entry(2, 1, false), entry(1, 1, false)}))
	broken("falling in the last byte", written([]ledger.Entry{{Print: api.Print{15: 2}, Deaths: 1}, {Print: api.Print{15: 1}, Deaths: 1}}))
	broken("falling at the end", written([]ledger.Entry{entry(1, 1, false), entry(3, 1, false), entry(2, 1, false)}))
	broken("65 entries", written(append(full(always), entry(200, 1, true))))
}

func TestParseByChance(t *testing.T) { // P16.2: what is read would be written so
	r := rand.New(rand.NewSource(16))
	read := 0
	for range 30000 {
		var l []ledger.Entry
		for n := range r.Intn(6) {
			l = append(l, entry(byte(10*n+r.Intn(10)), r.Intn(256), r.Intn(2) == 0))
		}
		b := []byte(written(l))
		b[r.Intn(len(b))] ^= 1 << r.Intn(8)
		m, e := ledger.Parse(string(b))
		if e != api.OK && e != api.ErrBroken || e == api.OK && m.Text() != string(b) {
			t.Fatalf("%q: %v, %q", b, e, m.Text())
		}
		if e == api.OK {
			read++
		}
	}
	if read < 1000 {
		t.Errorf("only %d were read", read)
	}
}

func TestSave(t *testing.T) { // P16.2
	d := fresh(t)
	var l ledger.Ledger
	for i, entries := range [][]ledger.Entry{nil, {entry(1, 1, false)}, full(always), nil, {entry(2, 0, true)}} {
		l = of(t, entries...)
		is(t, "Save", ledger.Save(d, l), api.OK)
		if d.Steps() != 4*(i+1) || d.Pending() != 0 || !slices.Equal(d.Names(), []string{"led"}) {
			t.Errorf("%d steps, %d turns, %q", d.Steps(), d.Pending(), d.Names())
		}
		if s, e := file.Load(d, "led"); s != written(entries) || e != api.OK {
			t.Errorf("%q, %v", s, e)
		}
		d.Crash(nil, nil)
		m, e := ledger.Load(d)
		is(t, "Load", e, api.OK)
		has(t, "Load", m, entries...)
	}
}

func TestSaveErrors(t *testing.T) { // P16.2: layer 14's
	l := of(t, full(never)...)
	is(t, "nil", ledger.Save(nil, l), api.ErrNil)
	small, _ := disk.New(100)
	is(t, "no room", ledger.Save(small, l), api.ErrSpace)
	is(t, "room", ledger.Save(small, ledger.Ledger{}), api.OK)
	for fuse, wanted := range []string{"", "led-t", "led-t", "led"} {
		d := fresh(t)
		d.Fuse(fuse)
		is(t, "a fuse", ledger.Save(d, l), api.ErrPower)
		is(t, "without power", ledger.Save(d, l), api.ErrPower)
		d.Crash([]bool{true, true}, nil)
		if got := strings.Join(d.Names(), " "); got != wanted {
			t.Errorf("a fuse of %d: %q", fuse, got)
		}
	}
}

func TestLoad(t *testing.T) { // P16.2
	told := func(what string, d *disk.Disk, wanted api.Errno) {
		t.Helper()
		l, e := ledger.Load(d)
		is(t, what, e, wanted)
		has(t, what, l)
	}
	told("nil", nil, api.ErrNil)
	d := fresh(t)
	told("no file", d, api.OK)
	is(t, "Write", d.Write("led-t", file.Seal(written(full(always)))), api.OK)
	told("another file", d, api.OK)
	for _, s := range []string{"", "x", file.Seal(""), file.Seal("x"), file.Seal(num(1)), file.Seal(written(full(always)) + "x"), written(full(always))} {
		is(t, "Write", d.Write("led", s), api.OK)
		told("what is none", d, api.ErrBroken)
	}
	is(t, "Write", d.Write("led", file.Seal(written(full(always)))), api.OK)
	l, e := ledger.Load(d)
	is(t, "Load", e, api.OK)
	has(t, "Load", l, full(always)...)
	d.Fuse(0)
	is(t, "a step", d.SyncDir(), api.ErrPower)
	told("without power", d, api.ErrPower)
	empty := fresh(t)
	empty.Fuse(0)
	is(t, "a step", empty.SyncDir(), api.ErrPower)
	told("without power, of an empty disk", empty, api.ErrPower)
}

func TestClean(t *testing.T) { // P16.2
	is(t, "of nil", ledger.Clean(nil), api.ErrNil)
	d := fresh(t)
	is(t, "of an empty disk", ledger.Clean(d), api.OK)
	for _, n := range []string{"cfg-t", "led", "led-t", "x"} {
		is(t, "Write", d.Write(n, n), api.OK)
	}
	is(t, "SyncDir", d.SyncDir(), api.OK)
	d.Fuse(1)
	is(t, "with a fuse", ledger.Clean(d), api.ErrPower)
	is(t, "without power", ledger.Clean(d), api.ErrPower)
	d.Crash(nil, nil)
	is(t, "Clean", ledger.Clean(d), api.OK)
	if got := strings.Join(d.Names(), " "); got != "cfg-t led x" || d.Pending() != 0 {
		t.Errorf("%q, %d turns", got, d.Pending())
	}
}

func TestWhereverThePowerGoes(t *testing.T) { // P16.2, P4: the ledger that there was, or the new one
	old, next := of(t, full(always)...), of(t, entry(1, 1, true))
	for fuse := range 5 {
		for turns := range 4 {
			for _, mask := range []uint64{0, 1, 5, 1 << 63, 1<<63 | 2, math.MaxUint64} {
				d := fresh(t)
				is(t, "Save", ledger.Save(d, old), api.OK)
				d.Fuse(fuse)
				e := ledger.Save(d, next)
				d.Crash([]bool{turns&1 == 1, turns&2 == 2}, []uint64{mask, ^mask})
				l, e1 := ledger.Load(d)
				isOld, isNew := l.Text() == old.Text(), l.Text() == next.Text()
				if e1 != api.OK || !isOld && !isNew || e == api.OK && !isNew || (e == api.OK) != (fuse == 4) {
					t.Fatalf("a fuse of %d, turns %b, mask %x: %v, %v", fuse, turns, mask, l.All(), e1)
				}
			}
		}
	}
}

// model is a ledger in the plainest way.
type model map[api.Print]ledger.Entry

func (m model) all() []ledger.Entry {
	var l []ledger.Entry
	for _, x := range m {
		l = append(l, x)
	}
	slices.SortFunc(l, func(a, b ledger.Entry) int { return bytes.Compare(a.Print[:], b.Print[:]) })
	return l
}

// put keeps an entry, if it tells anything.
func (m model) put(x ledger.Entry) {
	m[x.Print] = x
	if x.Deaths == 0 && !x.Held {
		delete(m, x.Print)
	}
}

func (m model) died(p api.Print, k int) api.Errno {
	x, ok := m[p]
	if !ok && len(m) == 64 {
		i := slices.IndexFunc(m.all(), func(o ledger.Entry) bool { return !o.Held })
		if i < 0 {
			return api.ErrFull
		}
		delete(m, m.all()[i].Print)
	}
	x.Print = p
	if x.Deaths < 255 {
		x.Deaths++
	}
	if x.Deaths >= k {
		x.Held = true
	}
	m.put(x)
	return api.OK
}

func TestByChance(t *testing.T) { // P16.1 to P16.3, against the model
	errors := map[api.Errno]int{}
	for seed := range int64(30) {
		r := rand.New(rand.NewSource(seed))
		k, prints := 1+r.Intn(4), 10+r.Intn(90)
		var l ledger.Ledger
		m := model{}
		for range 400 {
			p := api.Print{byte(r.Intn(prints))}
			before, text := l.All(), l.Text()
			was := l
			switch n := r.Intn(12); {
			case n == 0:
				l = l.Clear(p)
				delete(m, p)
			case n <= 2:
				l = l.Ready(p)
				m.put(ledger.Entry{Print: p, Held: m[p].Held})
			default:
				next, e := l.Died(p, k)
				is(t, "Died", e, m.died(p, k))
				errors[e]++
				if e == api.OK {
					l = next
				}
			}
			has(t, "by chance", l, m.all()...)
			has(t, "the ledger stays as it was", was, before...)
			if was.Text() != text || l.Text() != written(m.all()) {
				t.Fatalf("seed %d: %q", seed, l.Text())
			}
		}
	}
	if errors[api.OK] < 1000 || errors[api.ErrFull] < 20 {
		t.Errorf("not much was tried: %v", errors)
	}
}

func TestHeldTillCleared(t *testing.T) { // P16.3, P4: across losses of power, too
	for k := 1; k <= 5; k++ {
		d := fresh(t)
		p := api.Print{9}
		turn := func(f func(l ledger.Ledger) ledger.Ledger) ledger.Entry {
			t.Helper()
			l, e := ledger.Load(d)
			is(t, "Load", e, api.OK)
			is(t, "Save", ledger.Save(d, f(l)), api.OK)
			d.Crash(nil, nil)
			l, e = ledger.Load(d)
			is(t, "Load", e, api.OK)
			return l.Get(p)
		}
		die := func(l ledger.Ledger) ledger.Ledger { return died(t, l, p, k) }
		ready := func(l ledger.Ledger) ledger.Ledger { return l.Ready(p) }
		for range k - 1 {
			if turn(die).Held {
				t.Error("held below k deaths")
			}
		}
		turn(ready)
		for n := 1; n < k; n++ {
			if x := turn(die); x.Held || x.Deaths != n {
				t.Errorf("deaths aren't in a row: %v", x)
			}
		}
		if !turn(die).Held || !turn(ready).Held || !turn(die).Held || !turn(ready).Held {
			t.Error("not held from k deaths on")
		}
		x := turn(func(l ledger.Ledger) ledger.Ledger { return l.Clear(p) })
		if x != (ledger.Entry{Print: p}) {
			t.Errorf("cleared: %v", x)
		}
	}
}

func TestMemory(t *testing.T) { // the rule of memory
	l := of(t, full(never)...)
	one := l.All()
	for i := range one {
		one[i] = ledger.Entry{}
	}
	_ = append(one[:0], entry(9, 9, true))
	has(t, "behind changes of an answer", l, full(never)...)
	a, b := l.Clear(api.Print{0}), l.Clear(api.Print{0})
	a = died(t, a, api.Print{200}, 1)
	b = died(t, b, api.Print{201}, 2)
	has(t, "of one, another", a, append(full(never)[1:], entry(200, 1, true))...)
	has(t, "of one, another", b, append(full(never)[1:], entry(201, 1, false))...)
	has(t, "behind all that", l, full(never)...)
}
