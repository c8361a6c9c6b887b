package machine_test

import (
	"math/rand"
	"slices"
	"testing"

	"outrider/api"
	"outrider/ledger"
	"outrider/machine"
	"outrider/status"
)

// scene is what came to its end, and what is under way; and the version of what starts behind a loss of power then, without it and with it, or 0 of nobody.
type scene struct {
	what            string
	k               int
	done            []machine.Event
	under           machine.Event
	without, within uint64
}

// scenes: each kind of step that is persisted.
func scenes() []scene {
	open := of(tick, 0)
	one, two, three := on(81), on(82), on(83)
	first := []machine.Event{open, offer(1, one), of(ready, 1)}
	second := append(slices.Clone(first), offer(2, two))
	held := append(slices.Clone(second), of(died, 2))
	third := append(slices.Clone(second), of(died, 2), offer(3, three))
	bothHeld := []machine.Event{open, offer(1, one), of(died, 1), offer(2, two), of(died, 2)}
	return []scene{
		{"the first", 1, []machine.Event{open}, offer(1, one), 0, 1081},
		{"the second", 1, first, offer(2, two), 1081, 1082},
		{"the third", 9, second, offer(3, three), 1082, 1083},
		{"one that isn't fine", 1, first, text("x"), 1081, 1081},
		{"a death that holds it", 1, second, of(died, 2), 1082, 1081},
		{"a death that doesn't", 2, second, of(died, 2), 1082, 1082},
		{"a second death", 2, held, of(died, 3), 1082, 1081},
		{"the death of both", 1, []machine.Event{open, offer(1, one), of(died, 1), offer(2, two)}, of(died, 2), 1082, 0},
		{"it is cleared", 1, held, cleared(two), 1081, 1082},
		{"the elder one is cleared", 1, bothHeld, cleared(one), 0, 1081},
		{"it is ready", 2, held, of(ready, 3), 1082, 1082},
		{"the next, where one is held", 1, held, offer(3, three), 1081, 1083},
		{"the next, where both are held", 1, bothHeld, offer(3, three), 0, 1083},
		{"the newest dies, behind which one is held", 1, third, of(died, 3), 1083, 0},
		{"what is held is offered", 1, held, offer(3, two), 1081, 1081},
	}
}

// all: each list of flags of that length.
func all(length int) [][]bool {
	l := [][]bool{nil}
	for range length {
		var next [][]bool
		for _, x := range l {
			next = append(next, append(slices.Clone(x), false), append(slices.Clone(x), true))
		}
		l = next
	}
	return l
}

// starts holds a machine that was booted to what starts.
func starts(t *testing.T, what string, m *machine.Machine, may ...uint64) {
	t.Helper()
	if !m.Up() {
		t.Fatalf("%s: it isn't up", what)
	}
	if got := last(m); !slices.Contains(may, got) {
		t.Errorf("%s: %d starts, wanted one of %v", what, got, may)
	}
	wanted := status.Status{Slots: m.Status().Slots, Held: m.Status().Held}
	if last(m) != 0 {
		wanted.Busy, wanted.Gens = true, 1
	}
	is(t, what+": Status", m.Status(), wanted)
}

func TestWhereverThePowerGoes(t *testing.T) { // P30.3, and P2, P4: at each step, in booting, too, whatever survives
	boots := [][]uint64{nil, {0}, {1}, {2}, {0, 0}, {1, 0}, {1, 1}, {0, 1, 0}}
	masks := []uint64{0, most, 1 << 63, 1<<63 + 1, 2, 1<<63 + 6}
	refused := 0
	for _, s := range scenes() {
		for fuseAt := range uint64(5) {
			for i, names := range all(2) {
				for k, boot := range boots {
					mask := masks[(i+k+int(fuseAt))%len(masks)]
					m := fresh(t, s.k)
					does(t, m, s.done...)
					does(t, m, of(fuse, fuseAt))
					down := m.Do(s.under).Code == api.ErrPower
					is(t, s.what+": is it lost", m.Up(), !down)
					for _, n := range boot {
						if m.Do(machine.Crash(n, names, []uint64{mask, mask, mask, mask, mask})).Code == api.ErrPower {
							refused++
						}
					}
					is(t, s.what+": with enough steps", m.Do(machine.Crash(forever, names, []uint64{mask, mask, mask})).Code, api.OK)
					if down {
						starts(t, s.what, m, s.without, s.within)
					} else {
						starts(t, s.what, m, s.within)
					}
					once := last(m)
					does(t, m, machine.Crash(forever, nil, nil))
					starts(t, s.what+": it lasts", m, once)
				}
			}
			if t.Failed() {
				t.Fatalf("%s, at the step %d", s.what, fuseAt)
			}
		}
	}
	if refused < 200 {
		t.Errorf("only %d times the power was gone in booting", refused)
	}
}

func TestWithoutAndWithin(t *testing.T) { // P30.3: at the first step nothing of it is there; behind the last one, and a sure name, all
	for _, s := range scenes() {
		for at, wanted := range map[uint64]uint64{0: s.without, 3: s.within} {
			m := fresh(t, s.k)
			does(t, m, s.done...)
			does(t, m, of(fuse, at))
			if m.Do(s.under).Code != api.ErrPower {
				continue // it asks no disk
			}
			does(t, m, machine.Crash(forever, []bool{true, true}, []uint64{most, most, most, most}))
			starts(t, s.what, m, wanted)
		}
	}
}

// known is what is persisted.
type known struct {
	slots   []uint64 // versions, the newest first
	entries []ledger.Entry
}

func knows(m *machine.Machine) known {
	return known{slots: versions(m.Agent()), entries: m.Agent().Cache().All()}
}

// others: of how many prints two know another thing.
func others(a, b known) int {
	prints := map[api.Print]int{}
	for _, x := range append(slices.Clone(a.entries), b.entries...) {
		prints[x.Print] = 0
		if !slices.Contains(a.entries, x) || !slices.Contains(b.entries, x) {
			prints[x.Print] = 1
		}
	}
	n := 0
	for _, one := range prints {
		n += one
	}
	return n
}

// survives holds a machine that was booted to what it knew, of which one thing was under way: the version of a config, or 0 of an entry.
func survives(t *testing.T, m *machine.Machine, was known, under uint64) {
	t.Helper()
	got := knows(m)
	next := append([]uint64{under}, was.slots[:min(1, len(was.slots))]...)
	if !slices.Equal(got.slots, was.slots) && !(under > 0 && slices.Equal(got.slots, next)) {
		t.Errorf("slots %v, where there were %v, and %d under way", got.slots, was.slots, under)
	}
	if n := others(got, was); n > 1 || n > 0 && under > 0 {
		t.Errorf("entries %v, where there were %v", got.entries, was.entries)
	}
	wanted := uint64(0)
	for _, k := range m.Agent().Cache().Slots() {
		if !m.Agent().Cache().Entry(k.Print).Held {
			wanted = k.Config.Version
			break
		}
	}
	starts(t, "what starts", m, wanted)
}

func TestWhateverSurvivesByChance(t *testing.T) { // P30.3, and P2, P4: across many losses of power
	booting, none, elder := 0, 0, 0
	for seed := range int64(120) {
		r := rand.New(rand.NewSource(seed))
		m := fresh(t, 1+r.Intn(3))
		nonce, version := uint64(0), uint64(0)
		does(t, m, of(fuse, uint64(r.Intn(30))), of(tick, 0))
		for range 80 {
			was, under := knows(m), uint64(0)
			var e machine.Event
			switch l := m.Agent().Crew().Gens(); {
			case len(l) == 0 || r.Intn(3) == 0:
				nonce, version = nonce+1, version+1
				x := on(uint16(81 + r.Intn(5)))
				x.Version = version
				e, under = offer(nonce, x), version
			case r.Intn(5) == 0:
				e = cleared(on(uint16(81 + r.Intn(5))))
			default:
				e = of([]int{died, died, died, ready, deliver}[r.Intn(5)], l[len(l)-1].ID())
				if e.Kind == deliver {
					e.N = 0
				}
			}
			if m.Do(e).Code != api.ErrPower && r.Intn(20) > 0 {
				continue
			}
			if m.Up() {
				was, under = knows(m), 0
			}
			for {
				names, sectors := []bool{r.Intn(2) == 0, r.Intn(2) == 0, r.Intn(2) == 0}, []uint64{r.Uint64(), r.Uint64(), r.Uint64(), r.Uint64(), r.Uint64()}
				code := m.Do(machine.Crash(uint64(r.Intn(4)*r.Intn(9)), names, sectors)).Code
				if code == api.OK {
					break
				}
				is(t, "the error of booting", code, api.ErrPower)
				booting++
			}
			survives(t, m, was, under)
			if len(versions(m.Agent())) > 0 && last(m) == 0 {
				none++
			}
			if l := versions(m.Agent()); len(l) > 1 && last(m) == l[1] {
				elder++
			}
			nonce = 0
			does(t, m, of(tick, 0))
			if t.Failed() {
				t.Fatalf("seed %d", seed)
			}
		}
	}
	if booting < 200 || none < 100 || elder < 100 {
		t.Errorf("the power was gone in booting only %d times, all were held %d times, the newest %d times", booting, none, elder)
	}
}
