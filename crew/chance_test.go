package crew_test

import (
	"maps"
	"math/rand"
	"slices"
	"testing"

	"outrider/api"
	"outrider/config"
	"outrider/crew"
	"outrider/finger"
	"outrider/pipe"
	"outrider/proxy"
	"outrider/spot"
)

// A model of the chapter, by hand; of layers 24 to 26 it has its own.
type model struct {
	drain, last, epoch uint64
	gens               []*modelGen // by rising numbers
	base               proxy.Counts
	pipe               []pipe.Item
	parent, child      uint64 // 0, where no handoff is on
	given, took        map[spot.Place]bool
}

type modelGen struct {
	id, deadline uint64
	state        int
	config       config.Config
	owns         map[spot.Place]bool
	conns        map[uint64]proxy.Conn
	counts       proxy.Counts
}

func (m *model) clone() *model {
	n := *m
	n.gens, n.pipe, n.given, n.took = nil, slices.Clone(m.pipe), maps.Clone(m.given), maps.Clone(m.took)
	for _, g := range m.gens {
		h := *g
		h.owns, h.conns = maps.Clone(g.owns), maps.Clone(g.conns)
		n.gens = append(n.gens, &h)
	}
	return &n
}

func (m *model) gen(id uint64) *modelGen {
	for _, g := range m.gens {
		if g.id == id {
			return g
		}
	}
	return nil
}

// of: who is the last one of whom that holds; nil, where nobody is.
func (m *model) of(holds func(g *modelGen) bool) *modelGen {
	var last *modelGen
	for _, g := range m.gens {
		if holds(g) {
			last = g
		}
	}
	return last
}

func (m *model) serving() *modelGen {
	return m.of(func(g *modelGen) bool { return g.state == isReady })
}

func (m *model) busy() bool {
	return m.child > 0 || m.of(func(g *modelGen) bool { return g.state == starting }) != nil
}

// places: of a config, rising.
func places(c config.Config) []spot.Place {
	var l []spot.Place
	for _, x := range c.Listeners {
		l = append(l, x.Place)
	}
	slices.SortFunc(l, spot.Cmp)
	return l
}

func (g *modelGen) ownAll() {
	for _, p := range places(g.config) {
		g.owns[p] = true
	}
}

func (m *model) send(x pipe.Item) {
	m.pipe = append(m.pipe, x)
	if len(m.pipe) > 64 {
		m.pipe = m.pipe[1:]
	}
}

func (m *model) sendTokens() {
	for _, p := range slices.SortedFunc(maps.Keys(m.given), spot.Cmp) {
		m.send(token(m.child, m.epoch, p))
	}
}

func (m *model) start(x config.Config, fine bool) (uint64, api.Errno) {
	switch {
	case !fine:
		return 0, api.ErrForm
	case m.busy():
		return 0, api.ErrState
	case len(m.gens) == 4:
		return 0, api.ErrFull
	}
	m.last++
	m.gens = append(m.gens, &modelGen{id: m.last, state: starting, config: x, owns: map[spot.Place]bool{}, conns: map[uint64]proxy.Conn{}})
	return m.last, api.OK
}

func (m *model) ready(id, now uint64) api.Errno {
	g, p := m.gen(id), m.serving()
	switch {
	case g == nil:
		return api.ErrNone
	case g.state != starting:
		return api.ErrState
	}
	g.state = isReady
	if p == nil {
		g.ownAll()
		return api.OK
	}
	m.epoch++
	m.parent, m.child, m.given, m.took = p.id, id, map[spot.Place]bool{}, map[spot.Place]bool{}
	for _, x := range places(g.config) {
		if p.owns[x] {
			m.given[x] = true
		} else {
			g.owns[x] = true
		}
	}
	clear(p.owns)
	m.sendTokens()
	m.end(now)
	return api.OK
}

func (m *model) end(now uint64) {
	if len(m.given) > 0 {
		return
	}
	p := m.gen(m.parent)
	p.state, p.deadline = draining, now+m.drain
	if p.deadline < now {
		p.deadline = most
	}
	m.parent, m.child = 0, 0
}

func (m *model) died(id uint64) api.Errno {
	g := m.gen(id)
	if g == nil {
		return api.ErrNone
	}
	g.close(func(proxy.Conn) bool { return true })
	m.base = m.base.Add(g.counts)
	m.gens = slices.DeleteFunc(m.gens, func(x *modelGen) bool { return x == g })
	m.pipe = slices.DeleteFunc(m.pipe, func(x pipe.Item) bool { return x.To == id })
	if id == m.parent || id == m.child {
		m.gen(m.parent + m.child - id).ownAll()
		m.parent, m.child, m.pipe = 0, 0, nil
	}
	return api.OK
}

func (g *modelGen) close(goes func(c proxy.Conn) bool) {
	for id, c := range g.conns {
		if goes(c) {
			delete(g.conns, id)
			g.counts.Closed++
		}
	}
}

func (m *model) deliver(i int, now uint64) api.Errno {
	if i < 0 || i >= len(m.pipe) {
		return api.ErrNone
	}
	x := m.pipe[i]
	m.pipe = slices.Delete(m.pipe, i, i+1)
	for _, p := range everywhere() {
		switch {
		case m.child == 0:
		case x == token(m.child, m.epoch, p):
			if !m.took[p] {
				m.took[p] = true
				m.gen(m.child).owns[p] = true
			}
			m.send(taken(m.parent, m.epoch, p))
		case x == taken(m.parent, m.epoch, p):
			delete(m.given, p)
			m.end(now)
		}
	}
	return api.OK
}

func (m *model) tick(now uint64) {
	if m.child > 0 {
		m.sendTokens()
	}
	for _, g := range slices.Clone(m.gens) {
		g.close(func(c proxy.Conn) bool { return c.Until > 0 && c.Until <= now })
		if g.state == draining && (len(g.conns) == 0 || g.deadline <= now) {
			m.died(g.id)
		}
	}
}

func (m *model) accept(p spot.Place, id uint64, host string, now uint64) (proxy.Conn, uint64, api.Errno) {
	if m.of(func(g *modelGen) bool { return g.conns[id].Cluster != "" }) != nil {
		return proxy.Conn{}, 0, api.ErrTwice
	}
	g := m.of(func(g *modelGen) bool { return g.owns[p] })
	switch {
	case g == nil:
		return proxy.Conn{}, 0, api.ErrOwner
	case len(g.conns) == 64:
		return proxy.Conn{}, 0, api.ErrFull
	case host != "a.b":
		g.counts.Refused++
		return proxy.Conn{}, 0, api.ErrNone
	}
	c := proxy.Conn{ID: id, Cluster: "web"}
	if idle := g.config.Listeners[0].Routes[0].Idle; idle > 0 {
		c.Until = now + idle
	}
	g.conns[id] = c
	g.counts.Accepted++
	return c, g.id, api.OK
}

func (m *model) closes(id uint64) api.Errno {
	g := m.of(func(g *modelGen) bool { return g.conns[id].Cluster != "" })
	if g == nil {
		return api.ErrNone
	}
	g.close(func(c proxy.Conn) bool { return c.ID == id })
	return api.OK
}

// tells: what a crew tells that is as the model.
func (m *model) tells() tells {
	s := tells{pipe: m.pipe, epoch: m.epoch, total: m.base, busy: m.busy()}
	for _, g := range m.gens {
		p, _ := finger.Of(g.config)
		x := gen{id: g.id, state: g.state, print: p, owns: slices.SortedFunc(maps.Keys(g.owns), spot.Cmp), counts: g.counts}
		for _, id := range slices.Sorted(maps.Keys(g.conns)) {
			x.conns = append(x.conns, g.conns[id])
		}
		s.gens = append(s.gens, x)
		s.total = s.total.Add(g.counts)
	}
	if g := m.serving(); g != nil {
		s.serving = g.id
	}
	return s
}

func everywhere() []spot.Place { return []spot.Place{any80, any90, own80, own81, own82, own443} }

func one[T any](r *rand.Rand, l ...T) T { return l[r.Intn(len(l))] }

// some: a config by chance, whose places don't meet.
func some(r *rand.Rand) config.Config {
	var l []spot.Place
	for _, p := range everywhere() {
		if r.Intn(2) == 0 && !(p == own80 && slices.Contains(l, any80)) {
			l = append(l, p)
		}
	}
	r.Shuffle(len(l), func(i, j int) { l[i], l[j] = l[j], l[i] })
	return idles(one[uint64](r, 0, 0, 1, 9, longIdle), l...)
}

// holds is what P3 and P27.4 promise of a crew, whatever the model says.
func holds(t *testing.T, c crew.Crew) {
	t.Helper()
	owners, conns := map[spot.Place]uint64{}, map[uint64]uint64{}
	total := c.Total()
	left := uint64(0)
	s, served := c.Serving()
	for _, g := range c.Gens() {
		for _, p := range g.Owns() {
			is(t, "who else owns a place", owners[p], 0)
			owners[p] = g.ID()
			is(t, "is it one of its listeners'", slices.Contains(places(g.Config()), p), true)
		}
		for _, x := range g.Conns() {
			is(t, "who else has a connection", conns[x.ID], 0)
			conns[x.ID] = g.ID()
			left++
		}
		if served && !c.Busy() && g.ID() != s.ID() {
			is(t, "how many places another one owns", len(g.Owns()), 0)
		}
	}
	if served && !c.Busy() {
		lists(t, "what who serves owns", s.Owns(), places(s.Config())...)
	}
	for _, p := range everywhere() {
		who, owned := c.Owner(p)
		is(t, "the Owner", who, owners[p])
		is(t, "is it owned", owned, owners[p] > 0)
	}
	is(t, "what is accepted is closed, or a connection", total.Accepted, total.Closed+left)
	is(t, "do more live than may", len(c.Gens()) <= 4 && c.Pipe().Len() <= 64, true)
}

// rose: did Total not fall?
func rose(t *testing.T, was, now proxy.Counts) {
	t.Helper()
	is(t, "did Total not fall", was.Accepted <= now.Accepted && was.Closed <= now.Closed && was.Refused <= now.Refused, true)
}

// chance is a crew, and the model of it.
type chance struct {
	r    *rand.Rand
	c    crew.Crew
	m    *model
	now  uint64
	ids  int // of connections
	seen map[api.Errno]int
}

// errs holds an error to the model's.
func (x *chance) errs(t *testing.T, what string, got, wanted api.Errno) {
	t.Helper()
	is(t, what, got, wanted)
	x.seen[got]++
}

// step does one thing by chance, to both.
func (x *chance) step(t *testing.T) {
	t.Helper()
	r := x.r
	id := uint64(r.Intn(int(min(x.m.last, 3))+2)) + x.m.last - min(x.m.last, 3)
	i := r.Intn(len(x.m.pipe)+2) - 1
	var e api.Errno
	switch r.Intn(26) {
	default:
		p, host, conn := one(r, everywhere()...), one(r, "a.b", "a.b", "a.b", "q"), uint64(r.Intn(x.ids))
		var got proxy.Conn
		var who uint64
		x.c, got, who, e = x.c.Accept(p, conn, host, "/x", x.now)
		wanted, by, f := x.m.accept(p, conn, host, x.now)
		is(t, "the connection", got, wanted)
		is(t, "who accepts", who, by)
		x.errs(t, "Accept", e, f)
	case 0, 1, 2:
		y, fine := some(r), r.Intn(9) > 0
		if !fine {
			y.Clusters = nil
			fine = len(y.Listeners) == 0
		}
		var got uint64
		x.c, got, e = x.c.Start(y)
		wanted, f := x.m.start(y, fine)
		is(t, "the number", got, wanted)
		x.errs(t, "Start", e, f)
	case 3, 4, 5, 6:
		x.c, e = x.c.Ready(id, x.now)
		x.errs(t, "Ready", e, x.m.ready(id, x.now))
	case 7:
		if r.Intn(2) > 0 {
			return
		}
		x.c, e = x.c.Died(id)
		x.errs(t, "Died", e, x.m.died(id))
	case 8, 9, 10, 11, 12, 13:
		x.c, e = x.c.Deliver(i, x.now)
		x.errs(t, "Deliver", e, x.m.deliver(i, x.now))
	case 14, 15:
		x.c, e = x.c.Double(i)
		f := api.ErrNone
		if i >= 0 && i < len(x.m.pipe) {
			x.m.send(x.m.pipe[i])
			f = api.OK
		}
		x.errs(t, "Double", e, f)
	case 16:
		x.c, e = x.c.Lose(i)
		f := api.ErrNone
		if i >= 0 && i < len(x.m.pipe) {
			x.m.pipe = slices.Delete(x.m.pipe, i, i+1)
			f = api.OK
		}
		x.errs(t, "Lose", e, f)
	case 17, 18:
		conn := uint64(r.Intn(x.ids))
		x.c, e = x.c.Close(conn)
		x.errs(t, "Close", e, x.m.closes(conn))
	case 19, 20:
		x.now += uint64(r.Intn(4))
		x.c = x.c.Tick(x.now)
		x.m.tick(x.now)
	}
}

func TestByChance(t *testing.T) { // P27.1 to P27.4, P3
	seen := map[api.Errno]int{}
	for seed := range int64(250) {
		r := rand.New(rand.NewSource(seed))
		drain := one[uint64](r, 0, 5, 30, most)
		x := &chance{r: r, c: crew.New(drain), m: &model{drain: drain}, ids: one(r, 4, 40, 100000), seen: seen}
		elder, its := x.c, x.m.clone()
		for range 300 {
			was := x.c.Total()
			x.step(t)
			same(t, "by chance", told(x.c), x.m.tells())
			holds(t, x.c)
			rose(t, was, x.c.Total())
			if t.Failed() {
				t.Fatalf("seed %d", seed)
			}
			switch r.Intn(60) { // an elder crew stayed as it was, in what it doesn't tell, too
			case 0:
				elder, its = x.c, x.m.clone()
			case 1:
				x.c, x.m = elder, its.clone()
			}
		}
	}
	for _, e := range []api.Errno{api.OK, api.ErrNone, api.ErrState, api.ErrForm, api.ErrFull, api.ErrTwice, api.ErrOwner} {
		if seen[e] < 20 {
			t.Errorf("%v came only %d times", e, seen[e])
		}
	}
}

func TestInTheEnd(t *testing.T) { // P5: when what is sent is delivered in the end
	ended := 0
	for seed := range int64(400) {
		r := rand.New(rand.NewSource(seed))
		x := &chance{r: r, c: crew.New(7), m: &model{drain: 7}, ids: 1000, seen: map[api.Errno]int{}}
		for range 100 + r.Intn(100) {
			x.step(t)
		}
		if x.m.child == 0 {
			continue
		}
		ended++
		parent, child := x.m.parent, x.m.gen(x.m.child)
		x.c = x.c.Tick(x.now)
		for x.c.Pipe().Len() > 0 {
			x.c = deliver(t, x.c, r.Intn(x.c.Pipe().Len()), x.now)
			holds(t, x.c)
		}
		is(t, "Busy", x.c.Busy(), false)
		serves(t, "the end", x.c, child.id)
		owns(t, "the end", x.c, child.id, places(child.config)...)
		x.c = x.c.Tick(x.now + 7)
		is(t, "is the parent gone", slices.ContainsFunc(x.c.Gens(), func(g proxy.Gen) bool { return g.ID() == parent }), false)
		lives(t, "behind the deadline", x.c, [2]uint64{child.id, isReady})
	}
	if ended < 50 {
		t.Errorf("only %d handoffs were on", ended)
	}
}
