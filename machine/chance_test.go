package machine_test

import (
	"math/rand"
	"testing"

	"outrider/agent"
	"outrider/api"
	"outrider/disk"
	"outrider/finger"
	"outrider/machine"
	"outrider/proxy"
	"outrider/session"
	"outrider/spot"
	"outrider/status"
)

// twin is what a machine should be like: a disk and an agent, that are asked by hand.
type twin struct {
	k int
	d *disk.Disk
	a *agent.Agent
}

// fuses: above 2^31 - 1 none.
func (w *twin) fuses(n uint64) {
	w.d.Fuse(-1)
	if n < 1<<31 {
		w.d.Fuse(int(n))
	}
}

// index: a number as an int.
func index(n uint64) int {
	if n >= 1<<31 {
		return 1<<31 - 1
	}
	return int(n)
}

func (w *twin) does(e machine.Event) machine.Answer {
	var x machine.Answer
	if e.Kind == fuse {
		w.fuses(e.N)
		return x
	}
	if e.Kind == crash {
		w.d.Crash(e.Names, e.Sectors)
		w.fuses(e.N)
		w.a, x.Code = agent.Boot(w.d, setting(w.k))
		return x
	}
	if w.a.Err() != api.OK {
		return machine.Answer{Code: api.ErrStop}
	}
	switch e.Kind {
	case message:
		x.Code = w.a.Message(e.Text)
	case tick:
		x.Code = w.a.Tick(e.N)
	case lost:
		x.Code = w.a.Lost()
	case ready:
		x.Code = w.a.Ready(e.N)
	case died:
		x.Code = w.a.Died(e.N)
	case deliver:
		x.Code = w.a.Deliver(index(e.N))
	case double:
		x.Code = w.a.Double(index(e.N))
	case lose:
		x.Code = w.a.Lose(index(e.N))
	case accept:
		p, code := spot.Parse(e.Text)
		if code != api.OK {
			return machine.Answer{Code: api.ErrForm}
		}
		x.Conn, x.Who, x.Code = w.a.Accept(p, e.N, e.Host, e.Path)
	case shut:
		x.Code = w.a.Close(e.N)
	case take:
		s, ok := w.a.Take()
		if !ok {
			return machine.Answer{Code: api.ErrNone}
		}
		x.Text = s
	case clean:
		p, code := finger.Parse(e.Text)
		if code != api.OK {
			return machine.Answer{Code: api.ErrForm}
		}
		x.Code = w.a.Clear(p)
	}
	return x
}

func one[T any](r *rand.Rand, l ...T) T { return l[r.Intn(len(l))] }

// some: an event by chance, of which most do something.
func some(r *rand.Rand, a *agent.Agent) machine.Event {
	kind := one(r, 0, 0, 0, 1, 1, 2, 3, 3, 3, 3, 4, 5, 5, 5, 6, 6, 7, 7, 8, 8, 8, 9, 9, 10, 11, one(r, take, fuse), one(r, tick, crash))
	e := machine.Event{Kind: kind, N: r.Uint64() >> r.Intn(65)}
	id := e.N
	if l := a.Crew().Gens(); len(l) > 0 {
		id = one(r, l...).ID()
	}
	switch kind {
	case message:
		s := a.Session()
		x := on(uint16(81 + r.Intn(4)))
		x.Version = e.N
		body := one(r, written(x), written(x), written(x), "x")
		e.Text = session.Message(one(r, 2, 2, 2, 2, 3), s.Epoch, body, x.Version, s.Nonce+uint64(r.Intn(3)))
	case tick:
		e.N = one(r, 0, 1, 2, 9, e.N>>40)
	case lost:
		e.Kind = one(r, lost, tick, tick)
	case ready, died:
		e.N = one(r, id, id, id, e.N)
	case deliver, double, lose:
		e.N = one(r, 0, 0, 1, 2, e.N)
	case accept:
		e.Text = one(r, shared, shared, "127.0.0.1:81", "127.0.0.1:82", "127.0.0.1:9", "x")
		e.N, e.Host, e.Path = uint64(r.Intn(12)), one(r, "a.b", "a.b", "q"), "/"
	case shut:
		for _, g := range a.Crew().Gens() {
			for _, c := range g.Conns() {
				e.N = one(r, c.ID, c.ID, e.N)
			}
		}
	case clean:
		e.Text = one(r, cleared(on(81)).Text, cleared(on(82)).Text, "x", shared)
	case fuse:
		e.N = one(r, e.N, 30+e.N%20, forever, forever)
	case crash:
		e.N = one(r, e.N%4, 30+e.N%20, forever, forever)
		e.Names, e.Sectors = []bool{r.Intn(2) == 0, r.Intn(2) == 0}, []uint64{r.Uint64(), r.Uint64(), r.Uint64()}
	}
	return e
}

func TestByChance(t *testing.T) { // P30.1 and P30.2: it answers what the agent, and the disk, do; and P29.3, P3
	seen := map[api.Errno]int{}
	kinds, draining := map[int]int{}, 0
	for seed := range int64(220) {
		r := rand.New(rand.NewSource(seed))
		k := 1 + r.Intn(3)
		m := fresh(t, k)
		d, e := disk.New(api.MaxDisk)
		is(t, "disk.New", e, api.OK)
		a, e := agent.Boot(d, setting(k))
		is(t, "Boot", e, api.OK)
		w := &twin{k: k, d: d, a: a}
		for range 300 {
			e := some(r, m.Agent())
			x, y := m.Do(e), w.does(e)
			is(t, "the answer", x, y)
			seen[x.Code]++
			if x.Code == api.OK {
				kinds[e.Kind]++
			}
			is(t, "Up", m.Up(), w.a.Err() == api.OK)
			is(t, "Status", m.Status(), status.Of(w.a))
			is(t, "is there an agent", m.Agent() != nil, w.a != nil)
			same(t, "behind it", tell(m.Agent(), m.Disk()), tell(w.a, w.d))
			s, code := status.Parse(m.Status().Text())
			is(t, "what is told is read as it was", s == m.Status() && code == api.OK, true)
			owned(t, m)
			if m.Status().Gens > 1 && !m.Status().Busy {
				draining++
			}
			if t.Failed() {
				t.Fatalf("seed %d: %v", seed, e)
			}
		}
	}
	for kind := message; kind <= crash; kind++ {
		if kinds[kind] < 100 {
			t.Errorf("the kind %d was done only %d times", kind, kinds[kind])
		}
	}
	for _, e := range []api.Errno{api.ErrNone, api.ErrForm, api.ErrState, api.ErrTwice, api.ErrStale, api.ErrOwner, api.ErrPower, api.ErrStop, api.ErrKind} {
		if seen[e] < 100 {
			t.Errorf("%v came only %d times", e, seen[e])
		}
	}
	if draining < 50 {
		t.Errorf("one drained only %d times", draining)
	}
}

// owned holds a machine to one owner of each place, who serves, where no handoff is on.
func owned(t *testing.T, m *machine.Machine) {
	t.Helper()
	c := m.Agent().Crew()
	owners := map[spot.Place]uint64{}
	for _, g := range c.Gens() {
		for _, p := range g.Owns() {
			is(t, "who else owns a place", owners[p], 0)
			owners[p] = g.ID()
		}
	}
	l := c.Gens()
	g, serves := c.Serving()
	handing := c.Busy() && l[len(l)-1].State() != proxy.Starting
	if !serves || handing {
		return
	}
	is(t, "does anybody else own any", len(owners), len(g.Config().Listeners))
	for _, l := range g.Config().Listeners {
		is(t, "who owns a place", owners[l.Place], g.ID())
	}
}
