package agent_test

import (
	"bytes"
	"maps"
	"math/rand"
	"slices"
	"testing"

	"outrider/agent"
	"outrider/api"
	"outrider/config"
	"outrider/crew"
	"outrider/disk"
	"outrider/ledger"
	"outrider/proxy"
	"outrider/session"
	"outrider/slot"
	"outrider/spot"
)

// state is what is persisted, by hand.
type state struct {
	slots  []slot.Kept // the newest first
	deaths map[api.Print]ledger.Entry
}

// with: the same, with a config more.
func (s state) with(c config.Config) state {
	n := uint64(1)
	if len(s.slots) > 0 {
		n = s.slots[0].Number + 1
	}
	k := slot.Kept{Number: n, Config: c, Print: printOf(c)}
	return state{slots: append([]slot.Kept{k}, s.slots[:min(1, len(s.slots))]...), deaths: s.deaths}
}

// turned: the same, with another entry of a print.
func (s state) turned(p api.Print, deaths int, held bool) state {
	m := maps.Clone(s.deaths)
	m[p] = ledger.Entry{Print: p, Deaths: deaths, Held: held}
	if deaths == 0 && !held {
		delete(m, p)
	}
	return state{slots: s.slots, deaths: m}
}

func (s state) all() []ledger.Entry {
	return slices.SortedFunc(maps.Values(s.deaths), func(a, b ledger.Entry) int { return bytes.Compare(a.Print[:], b.Print[:]) })
}

// best: the newest that isn't held.
func (s state) best() (slot.Kept, bool) {
	for _, k := range s.slots {
		if !s.deaths[k.Print].Held {
			return k, true
		}
	}
	return slot.Kept{}, false
}

// is: has an agent that?
func (s state) is(a *agent.Agent) bool {
	same := func(x, y slot.Kept) bool {
		return x.Number == y.Number && x.Print == y.Print && config.Same(x.Config, y.Config)
	}
	return slices.EqualFunc(s.slots, a.Cache().Slots(), same) && slices.Equal(s.all(), a.Cache().All())
}

// A model of the chapter, by hand; of the crew's and the session's own doings it leaves all to their layers.
type model struct {
	k    int
	fuse int   // how many steps go by yet; below 0: all
	sure state // what is known to be persisted
	want state // what would be, if what is under way came to its end
	crew crew.Crew
	talk session.Session
	now  uint64
	out  []string
	lost bool
}

// save: four steps, or the power is gone.
func (m *model) save(s state) bool {
	m.want = s
	if m.fuse >= 0 && m.fuse < 4 {
		m.lost = true
		return false
	}
	if m.fuse >= 0 {
		m.fuse -= 4
	}
	m.sure = s
	return true
}

func (m *model) settle() {
	best, ok := m.sure.best()
	s, serves := m.crew.Serving()
	if ok && !m.crew.Busy() && !(serves && s.Print() == best.Print) {
		m.crew, _, _ = m.crew.Start(best.Config)
	}
}

func (m *model) send(text string) {
	if text != "" {
		m.out = append(m.out, text)
	}
	if len(m.out) > 64 {
		m.out = m.out[1:]
	}
}

// offered is a config that comes, or what isn't one.
type offered struct {
	config config.Config
	body   string
	code   api.Errno // of what is no config that is fine
}

func (m *model) message(epoch, nonce uint64, x offered) api.Errno {
	talk, o, reply, e := m.talk.Take(session.Message(session.Offered, epoch, x.body, x.config.Version, nonce))
	m.talk = talk
	if e != api.OK {
		m.send(reply)
		return e
	}
	code := x.code
	if code == api.OK && m.sure.deaths[printOf(x.config)].Held {
		code = api.ErrHeld
	}
	if code == api.OK && !m.save(m.sure.with(x.config)) {
		return api.ErrPower
	}
	m.talk, reply = m.talk.Done(o, code)
	m.send(reply)
	m.settle()
	return api.OK
}

func (m *model) tick(n uint64) {
	m.now += n
	m.crew = m.crew.Tick(m.now)
	var text string
	m.talk, text = m.talk.Tick(m.now)
	m.send(text)
	m.settle()
}

func (m *model) gen(id uint64) (proxy.Gen, bool) {
	for _, g := range m.crew.Gens() {
		if g.ID() == id {
			return g, true
		}
	}
	return proxy.Gen{}, false
}

func (m *model) ready(id uint64) api.Errno {
	c, e := m.crew.Ready(id, m.now)
	if e != api.OK {
		return e
	}
	m.crew = c
	g, _ := m.gen(id)
	x := m.sure.deaths[g.Print()]
	if x.Deaths > 0 && !m.save(m.sure.turned(g.Print(), 0, x.Held)) {
		e = api.ErrPower
	}
	m.settle()
	return e
}

func (m *model) died(id uint64) api.Errno {
	g, ok := m.gen(id)
	if !ok {
		return api.ErrNone
	}
	if g.State() == starting {
		x := m.sure.deaths[g.Print()]
		n := min(x.Deaths+1, 255)
		if !m.save(m.sure.turned(g.Print(), n, x.Held || n >= m.k)) {
			return api.ErrPower
		}
	}
	m.crew, _ = m.crew.Died(id)
	m.settle()
	return api.OK
}

func (m *model) clear(p api.Print) api.Errno {
	if _, ok := m.sure.deaths[p]; ok && !m.save(m.sure.turned(p, 0, false)) {
		return api.ErrPower
	}
	m.settle()
	return api.OK
}

// crews: what the crew does, behind which it settles.
func (m *model) crews(c crew.Crew, e api.Errno) api.Errno {
	if e == api.OK {
		m.crew = c
		m.settle()
	}
	return e
}

// chance is an agent on its disk, and the model of it.
type chance struct {
	r    *rand.Rand
	d    *disk.Disk
	a    *agent.Agent
	m    *model
	seen map[api.Errno]int
}

func one[T any](r *rand.Rand, l ...T) T { return l[r.Intn(len(l))] }

// some: what comes, by chance.
func (x *chance) some() offered {
	c := versioned(on(uint16(81+x.r.Intn(4))), x.r.Uint64()>>x.r.Intn(64))
	switch x.r.Intn(12) {
	case 0:
		c.Clusters = nil
		return offered{c, written(c), api.ErrNone}
	case 1:
		return offered{c, written(c) + "x", api.ErrForm}
	case 2:
		return offered{c, written(c)[:20], api.ErrShort}
	}
	return offered{c, written(c), api.OK}
}

// errs holds an error to the model's; once it is lost, ErrPower is all.
func (x *chance) errs(t *testing.T, what string, ask, wanted func() api.Errno) {
	t.Helper()
	e := api.ErrPower
	if !x.m.lost {
		e = wanted()
	}
	is(t, what, ask(), e)
	x.seen[e]++
}

// step does one thing by chance, to both.
func (x *chance) step(t *testing.T) {
	t.Helper()
	r, a, m := x.r, x.a, x.m
	id := uint64(r.Intn(6))
	if l := m.crew.Gens(); len(l) > 0 && r.Intn(6) > 0 {
		id = l[r.Intn(len(l))].ID()
	}
	i := r.Intn(m.crew.Pipe().Len()+2) - 1
	switch r.Intn(16) {
	case 0, 1:
		o, epoch := x.some(), m.talk.Epoch-uint64(r.Intn(8)/7)
		nonce := m.talk.Nonce + uint64(r.Intn(3))
		text := session.Message(session.Offered, epoch, o.body, o.config.Version, nonce)
		x.errs(t, "Message", func() api.Errno { return a.Message(text) }, func() api.Errno { return m.message(epoch, nonce, o) })
	case 2, 3, 4:
		n := uint64(r.Intn(3))
		x.errs(t, "Tick", func() api.Errno { return a.Tick(n) }, func() api.Errno { m.tick(n); return api.OK })
	case 5:
		if r.Intn(6) == 0 {
			x.errs(t, "Lost", a.Lost, func() api.Errno { m.talk = m.talk.Lost(m.now); m.settle(); return api.OK })
		}
	case 6, 7:
		x.errs(t, "Ready", func() api.Errno { return a.Ready(id) }, func() api.Errno { return m.ready(id) })
	case 8:
		x.errs(t, "Died", func() api.Errno { return a.Died(id) }, func() api.Errno { return m.died(id) })
	case 9, 10, 11:
		x.errs(t, "Deliver", func() api.Errno { return a.Deliver(i) }, func() api.Errno { return m.crews(m.crew.Deliver(i, m.now)) })
	case 12:
		x.errs(t, "Double", func() api.Errno { return a.Double(i) }, func() api.Errno { return m.crews(m.crew.Double(i)) })
		x.errs(t, "Lose", func() api.Errno { return a.Lose(i) }, func() api.Errno { return m.crews(m.crew.Lose(i)) })
	case 13:
		p := printOf(on(uint16(81 + r.Intn(4))))
		if r.Intn(2) == 0 {
			x.errs(t, "Clear", func() api.Errno { return a.Clear(p) }, func() api.Errno { return m.clear(p) })
		}
	case 14:
		x.comes(t)
	case 15:
		text, ok := a.Take()
		is(t, "Take", ok, len(m.out) > 0)
		if ok {
			is(t, "what is taken", text, m.out[0])
			m.out = m.out[1:]
		}
	}
}

// comes: a connection by chance, and another one goes.
func (x *chance) comes(t *testing.T) {
	t.Helper()
	r, m := x.r, x.m
	p, host := one(r, shared, shared, place(81), place(82), spot.Place{}), one(r, "a.b", "a.b", "q")
	id, other := uint64(r.Intn(40)), uint64(r.Intn(40))
	var got, wanted proxy.Conn
	var who, by uint64
	x.errs(t, "Accept", func() api.Errno {
		c, n, e := x.a.Accept(p, id, host, "/")
		got, who = c, n
		return e
	}, func() api.Errno {
		c, conn, n, e := m.crew.Accept(p, id, host, "/", m.now)
		m.crew, wanted, by = c, conn, n
		return e
	})
	is(t, "the connection", got, wanted)
	is(t, "who accepts", who, by)
	x.errs(t, "Close", func() api.Errno { return x.a.Close(other) }, func() api.Errno {
		c, e := m.crew.Close(other)
		m.crew = c
		return e
	})
}

// follows holds the agent to the model, and to what P28.4 and P3 promise whatever the model says.
func (x *chance) follows(t *testing.T) {
	t.Helper()
	m := x.m
	wanted := toldCrew(m.crew)
	wanted.session, wanted.now, wanted.out, wanted.slots, wanted.entries = m.talk, m.now, m.out, versions(m.sure.slots), m.sure.all()
	if m.lost {
		wanted.err = api.ErrPower
	}
	same(t, "by chance", tell(x.a), wanted)
	is(t, "what is persisted", m.sure.is(x.a), true)
	owners := map[spot.Place]uint64{}
	for _, g := range x.a.Crew().Gens() {
		if g.State() == starting && !m.lost {
			is(t, "is what starts held", x.a.Cache().Entry(g.Print()).Held, false)
		}
		for _, p := range g.Owns() {
			is(t, "who else owns a place", owners[p], 0)
			owners[p] = g.ID()
		}
	}
}

// crash: the power is gone, whatever survives, and it may go as the agent is booted again; then there is what was persisted last, or what was in flight.
func (x *chance) crash(t *testing.T) {
	t.Helper()
	r, m := x.r, x.m
	for {
		x.d.Crash([]bool{r.Intn(2) == 0, r.Intn(2) == 0, r.Intn(2) == 0}, []uint64{r.Uint64(), r.Uint64(), r.Uint64(), r.Uint64()})
		x.d.Fuse(one(r, 0, 1, 2, 3, 99))
		a, e := agent.Boot(x.d, setting(m.k))
		x.seen[e]++
		if e == api.OK {
			x.a = a
			break
		}
		is(t, "Boot", e, api.ErrPower)
	}
	if m.want.is(x.a) {
		m.sure = m.want
	}
	is(t, "what is persisted, or what was in flight", m.sure.is(x.a), true)
	best, _ := m.sure.best()
	x.m = &model{k: m.k, sure: m.sure, want: m.sure, crew: crew.New(5), talk: session.New(setting(1).Wait, best.Config.Version)}
	x.m.settle()
	x.m.fuse = one(r, -1, r.Intn(60))
	x.d.Fuse(x.m.fuse)
	x.follows(t)
}

func TestByChance(t *testing.T) { // P28.1 to P28.4, P2 to P4
	seen := map[api.Errno]int{}
	handoffs, held := uint64(0), 0
	for seed := range int64(200) {
		r := rand.New(rand.NewSource(seed))
		k := one(r, 1, 2, 3, 9)
		d := fresh(t)
		x := &chance{r: r, d: d, a: boot(t, d, k), seen: seen, m: &model{k: k, fuse: -1, crew: crew.New(5), talk: session.New(setting(1).Wait, 0)}}
		x.m.sure.deaths = map[api.Print]ledger.Entry{}
		x.m.want = x.m.sure
		for range 300 {
			x.step(t)
			x.follows(t)
			if x.m.lost && r.Intn(4) == 0 || r.Intn(150) == 0 {
				handoffs += x.a.Crew().Epoch()
				x.crash(t)
			}
			if t.Failed() {
				t.Fatalf("seed %d", seed)
			}
			if _, ok := x.m.sure.best(); !ok && len(x.m.sure.slots) > 0 {
				held++
			}
		}
	}
	for _, e := range []api.Errno{api.OK, api.ErrNone, api.ErrState, api.ErrTwice, api.ErrStale, api.ErrOwner, api.ErrPower} {
		if seen[e] < 200 {
			t.Errorf("%v came only %d times", e, seen[e])
		}
	}
	if handoffs < 200 || held < 200 {
		t.Errorf("only %d handoffs, and all were held only %d times", handoffs, held)
	}
}

func TestAcknowledgedIsPersisted(t *testing.T) { // P28.4: each Ack, whatever survives behind it
	for seed := range int64(200) {
		r := rand.New(rand.NewSource(seed))
		d := fresh(t)
		a := talking(t, d, 1)
		last := uint64(0)
		d.Fuse(r.Intn(30))
		for nonce := uint64(1); a.Err() == api.OK; nonce++ {
			c := versioned(on(uint16(81+r.Intn(20))), nonce)
			a.Message(offer(1, nonce, c))
			if text, ok := a.Take(); ok && text == ack(1, nonce, nonce) {
				last = nonce
			}
			if l := a.Crew().Gens(); len(l) > 0 && r.Intn(2) == 0 {
				a.Died(l[len(l)-1].ID())
			}
		}
		d.Crash([]bool{r.Intn(2) == 0, r.Intn(2) == 0, r.Intn(2) == 0}, []uint64{r.Uint64(), r.Uint64(), r.Uint64(), r.Uint64()})
		found := slices.Contains(append(versions(boot(t, d, 1).Cache().Slots()), 0), last)
		is(t, "is what was acknowledged last there", found, true)
	}
}
