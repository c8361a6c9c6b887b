package cache_test

import (
	"bytes"
	"math"
	"math/rand"
	"slices"
	"testing"

	"outrider/api"
	"outrider/cache"
	"outrider/disk"
	"outrider/ledger"
	"outrider/slot"
)

// state is what a cache knows, in the plainest way.
type state struct {
	slots  []slot.Kept
	deaths map[api.Print]ledger.Entry
}

func (s state) clone() state {
	m := map[api.Print]ledger.Entry{}
	for p, x := range s.deaths {
		m[p] = x
	}
	return state{slots: slices.Clone(s.slots), deaths: m}
}

func (s state) all() []ledger.Entry {
	var l []ledger.Entry
	for _, x := range s.deaths {
		l = append(l, x)
	}
	slices.SortFunc(l, func(a, b ledger.Entry) int { return bytes.Compare(a.Print[:], b.Print[:]) })
	return l
}

func (s state) is(c *cache.Cache) bool {
	return slices.EqualFunc(c.Slots(), s.slots, same) && slices.Equal(c.All(), s.all())
}

// best: by hand.
func (s state) best() (slot.Kept, bool) {
	for _, k := range s.slots {
		if !s.deaths[k.Print].Held {
			return k, true
		}
	}
	return slot.Kept{}, false
}

// step is one thing that a cache is asked, and what becomes of a state by it.
type step struct {
	what string
	ask  func(c *cache.Cache) api.Errno
	turn func(s state) (state, api.Errno)
}

func persist(port int) step {
	ask := func(c *cache.Cache) api.Errno {
		_, e := c.Persist(fine(port))
		return e
	}
	turn := func(s state) (state, api.Errno) {
		s = s.clone()
		if s.deaths[printOf(fine(port))].Held {
			return s, api.ErrHeld
		}
		n := uint64(1)
		if len(s.slots) > 0 {
			n = s.slots[0].Number + 1
		}
		s.slots = append([]slot.Kept{kept(n, fine(port))}, s.slots[:min(1, len(s.slots))]...)
		return s, api.OK
	}
	return step{"Persist", ask, turn}
}

// entryTurn: what becomes of a print's entry.
func entryTurn(port int, f func(x ledger.Entry) ledger.Entry) func(s state) (state, api.Errno) {
	return func(s state) (state, api.Errno) {
		s = s.clone()
		p := printOf(fine(port))
		x := f(s.deaths[p])
		x.Print = p
		s.deaths[p] = x
		if x.Deaths == 0 && !x.Held {
			delete(s.deaths, p)
		}
		return s, api.OK
	}
}

func die(port, k int) step {
	return step{"Died", func(c *cache.Cache) api.Errno { return c.Died(printOf(fine(port))) }, entryTurn(port, func(x ledger.Entry) ledger.Entry {
		n := min(x.Deaths+1, 255)
		return ledger.Entry{Deaths: n, Held: x.Held || n >= k}
	})}
}

func ready(port int) step {
	return step{"Ready", func(c *cache.Cache) api.Errno { return c.Ready(printOf(fine(port))) }, entryTurn(port, func(x ledger.Entry) ledger.Entry {
		return ledger.Entry{Held: x.Held}
	})}
}

func clearOf(port int) step {
	return step{"Clear", func(c *cache.Cache) api.Errno { return c.Clear(printOf(fine(port))) }, entryTurn(port, func(ledger.Entry) ledger.Entry {
		return ledger.Entry{}
	})}
}

// steps: each kind of step, and all that it may meet: a slot that is empty, an elder one, one that is held.
func steps(k int) []step {
	return []step{persist(1), die(1, k), persist(2), persist(1), die(2, k), die(1, k), persist(3), ready(2), die(3, k), clearOf(1), die(3, k), persist(3), persist(4), clearOf(3), ready(3)}
}

func masks() []uint64 { return []uint64{0, 1, 6, 1 << 63, 1<<63 | 2, math.MaxUint64} }

// begun: a cache behind the first n steps.
func begun(t *testing.T, k, n int) (*disk.Disk, *cache.Cache, state) {
	t.Helper()
	d := fresh(t)
	c := open(t, d, k)
	s := state{}
	for i, x := range steps(k)[:n] {
		next, wanted := x.turn(s)
		if e := x.ask(c); e != wanted || !next.is(c) {
			t.Fatalf("step %d, %s: %v, wanted %v", i, x.what, e, wanted)
		}
		s = next
	}
	return d, c, s
}

func TestWhereverThePowerGoes(t *testing.T) { // P17.3: in each step, at each of its steps on the disk, each set of turns
	for k := 1; k <= 2; k++ {
		for n, x := range steps(k) {
			for fuse := range 5 {
				for turns := range 4 {
					for _, mask := range masks() {
						d, c, before := begun(t, k, n)
						after, _ := x.turn(before)
						d.Fuse(fuse)
						e := x.ask(c)
						d.Crash([]bool{turns&1 == 1, turns&2 == 2}, []uint64{mask, ^mask, mask, ^mask})
						again := open(t, d, k)
						if e == api.OK && !after.is(again) || e == api.ErrPower && !after.is(again) && !before.is(again) || e == api.ErrHeld && !before.is(again) {
							t.Fatalf("k %d, step %d, %s, a fuse of %d, turns %b, mask %x: %v, then ports %v, %v", k, n, x.what, fuse, turns, mask, e, ports(again.Slots()), again.All())
						}
						if e == api.ErrPower && !before.is(c) {
							t.Fatalf("step %d, %s, a fuse of %d: something else is known", n, x.what, fuse)
						}
					}
				}
			}
		}
	}
}

// chance is a cache, what it knows, and what it would know if what was under way came to its end.
type chance struct {
	r    *rand.Rand
	d    *disk.Disk
	c    *cache.Cache
	k    int
	now  state
	want state
}

func (x *chance) step() step {
	port := 1 + x.r.Intn(4)
	switch x.r.Intn(8) {
	case 0, 1, 2:
		return persist(port)
	case 3, 4, 5:
		return die(port, x.k)
	case 6:
		return ready(port)
	}
	return clearOf(port)
}

// crash: the power is gone, whatever survives; and it may go as the cache is opened again.
func (x *chance) crash(t *testing.T) {
	t.Helper()
	x.d.Crash([]bool{x.r.Intn(2) == 0, x.r.Intn(2) == 0, x.r.Intn(2) == 0}, []uint64{x.r.Uint64(), x.r.Uint64(), x.r.Uint64(), x.r.Uint64()})
	x.d.Fuse(x.r.Intn(6) - 1)
	c, e := cache.Open(x.d, x.k)
	if e == api.ErrPower {
		x.crash(t)
		return
	}
	if e != api.OK {
		t.Fatal(e)
	}
	x.d.Fuse(-1)
	x.c = c
	if x.want.is(c) {
		x.now = x.want
	}
	if !x.now.is(c) {
		t.Fatalf("there are ports %v, %v; there were %v, %v", ports(c.Slots()), c.All(), ports(x.now.slots), x.now.all())
	}
}

func TestByChance(t *testing.T) { // P17.2, P17.3, P2, P4: against the state, over many steps and losses of power
	errors := map[api.Errno]int{}
	for seed := range int64(60) {
		r := rand.New(rand.NewSource(seed))
		x := &chance{r: r, d: fresh(t), k: 1 + r.Intn(3)}
		x.c = open(t, x.d, x.k)
		for range 80 {
			s := x.step()
			var wanted api.Errno
			x.want, wanted = s.turn(x.now)
			x.d.Fuse(r.Intn(25) - 1)
			e := s.ask(x.c)
			errors[e]++
			if e != wanted && e != api.ErrPower {
				t.Fatalf("seed %d, %s: %v, wanted %v", seed, s.what, e, wanted)
			}
			if e != api.ErrPower {
				x.now = x.want
			}
			if !x.now.is(x.c) {
				t.Fatalf("seed %d, %s, %v: ports %v, %v", seed, s.what, e, ports(x.c.Slots()), x.c.All())
			}
			if x.d.Down() || r.Intn(10) == 0 {
				x.crash(t)
			}
			k, ok := x.c.Best()
			best, isOne := x.now.best()
			if ok != isOne || !same(k, best) || ok && x.c.Entry(k.Print).Held {
				t.Fatalf("seed %d: best is of number %d, %v", seed, k.Number, ok)
			}
		}
	}
	if errors[api.OK] < 1000 || errors[api.ErrHeld] < 100 || errors[api.ErrPower] < 100 {
		t.Errorf("not much was tried: %v", errors)
	}
}
