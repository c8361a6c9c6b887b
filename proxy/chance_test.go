package proxy_test

import (
	"math/rand"
	"slices"
	"strings"
	"testing"

	"outrider/api"
	"outrider/config"
	"outrider/proxy"
	"outrider/spot"
)

// A model of the chapter, by hand; of layers 21 and 22 it has its own, of whole numbers.
type model struct {
	config config.Config
	state  int
	owns   map[spot.Place]bool
	conns  map[uint64]proxy.Conn
	hands  map[string][]int // what a cluster's endpoints have in hand
	counts proxy.Counts
}

func modelOf(c config.Config) *model {
	m := &model{config: c, state: 1, owns: map[spot.Place]bool{}, conns: map[uint64]proxy.Conn{}, hands: map[string][]int{}}
	for _, x := range c.Clusters {
		m.hands[x.Name] = make([]int, len(x.Endpoints))
	}
	return m
}

func (m *model) turn(state int) {
	m.state = state
	if state > 2 {
		clear(m.owns)
	}
	if state == 4 {
		m.closeAll(func(proxy.Conn) bool { return true })
	}
}

func (m *model) closeAll(goes func(c proxy.Conn) bool) {
	for id, c := range m.conns {
		if goes(c) {
			delete(m.conns, id)
			m.counts.Closed++
		}
	}
}

func (m *model) own(p spot.Place) api.Errno {
	switch {
	case !slices.ContainsFunc(m.config.Listeners, func(l config.Listener) bool { return l.Place == p }):
		return api.ErrNone
	case m.state > 2:
		return api.ErrState
	case m.owns[p]:
		return api.ErrThere
	}
	m.owns[p] = true
	return api.OK
}

func (m *model) release(p spot.Place) api.Errno {
	if !m.owns[p] {
		return api.ErrOwner
	}
	delete(m.owns, p)
	return api.OK
}

// covered: of small letters, and of patterns that hosts may be.
func covered(pattern, host string) bool {
	return pattern == host || strings.HasPrefix(pattern, "*.") && strings.HasSuffix(host, pattern[1:])
}

// slashed: a path with a / at its end.
func slashed(path string) string { return strings.TrimSuffix(path, "/") + "/" }

// route: where a request to a place goes, of paths that are ones.
func (m *model) route(p spot.Place, host, path string) (config.Route, bool) {
	best, points := config.Route{}, -1
	for _, l := range m.config.Listeners {
		for _, r := range l.Routes {
			if l.Place != p || !covered(r.Host, host) || !strings.HasPrefix(slashed(path), slashed(r.Path)) {
				continue
			}
			n := 1000*(2*strings.Count(r.Host, ".")) + strings.Count(slashed(r.Path), "/")
			if r.Host[0] != '*' {
				n += 1000
			}
			if n > points {
				best, points = r, n
			}
		}
	}
	return best, points >= 0
}

// next: the endpoint that comes next.
func (m *model) next(name string) int {
	hand, sum, chosen := m.hands[name], 0, 0
	x, _ := m.config.Cluster(name)
	for i, e := range x.Endpoints {
		hand[i] += e.Weight
		sum += e.Weight
		if hand[i] > hand[chosen] {
			chosen = i
		}
	}
	hand[chosen] -= sum
	return chosen
}

func (m *model) accept(p spot.Place, id uint64, host, path string, now uint64) (proxy.Conn, api.Errno) {
	_, there := m.conns[id]
	switch {
	case m.state != 2:
		return proxy.Conn{}, api.ErrState
	case !m.owns[p]:
		return proxy.Conn{}, api.ErrOwner
	case there:
		return proxy.Conn{}, api.ErrTwice
	case len(m.conns) == 64:
		return proxy.Conn{}, api.ErrFull
	}
	r, ok := m.route(p, host, path)
	if !ok {
		m.counts.Refused++
		return proxy.Conn{}, api.ErrNone
	}
	c := proxy.Conn{ID: id, Cluster: r.Cluster, Endpoint: m.next(r.Cluster)}
	if r.Idle > 0 {
		c.Until = now + r.Idle
		if c.Until < now {
			c.Until = most
		}
	}
	m.conns[id] = c
	m.counts.Accepted++
	return c, api.OK
}

func (m *model) close(id uint64) api.Errno {
	if _, ok := m.conns[id]; !ok {
		return api.ErrNone
	}
	m.closeAll(func(c proxy.Conn) bool { return c.ID == id })
	return api.OK
}

// follows holds a generation to the model.
func (m *model) follows(t *testing.T, g proxy.Gen) {
	t.Helper()
	is(t, "ID", g.ID(), 3)
	is(t, "State", g.State(), m.state)
	is(t, "Counts", g.Counts(), m.counts)
	owns, conns := g.Owns(), g.Conns()
	is(t, "how many it owns", len(owns), len(m.owns))
	for i, p := range owns {
		is(t, "does it own a place", m.owns[p], true)
		is(t, "do its places rise", i == 0 || spot.Cmp(owns[i-1], p) < 0, true)
	}
	is(t, "how many connections", len(conns), len(m.conns))
	for i, c := range conns {
		is(t, "a connection", c, m.conns[c.ID])
		is(t, "do connections rise", i == 0 || conns[i-1].ID < c.ID, true)
	}
	is(t, "what is accepted is closed, or a connection", g.Counts().Accepted, g.Counts().Closed+uint64(len(conns)))
}

func one[T any](r *rand.Rand, l ...T) T { return l[r.Intn(len(l))] }

// comes: a connection by chance, to the generation and to the model.
func comes(t *testing.T, r *rand.Rand, g proxy.Gen, m *model, ids int, now uint64) proxy.Gen {
	t.Helper()
	p := one(r, any80, any80, any80, own90, own91, own91, own443, spot.Place{Port: 81})
	id := uint64(r.Intn(ids))
	host, path := one(r, "a.b", "a.b", "z.b", "c", "s.b", "b", "q"), one(r, "/", "/x", "/x/y", "/y", "/y/", "/xy")
	wanted, code := m.accept(p, id, host, path, now)
	g, c, e := g.Accept(p, id, host, path, now)
	is(t, "Accept", e, code)
	is(t, "the connection", c, wanted)
	return g
}

// step does one thing by chance, to a generation and to the model, and answers the generation then.
func step(t *testing.T, r *rand.Rand, g proxy.Gen, m *model, ids int, now uint64) proxy.Gen {
	t.Helper()
	p := one(r, any80, own90, own91, own443, own443, spot.Place{Port: 81})
	id := uint64(r.Intn(ids))
	var e api.Errno
	switch r.Intn(40) {
	default:
		g = comes(t, r, g, m, ids, now)
	case 0, 1, 2, 3, 4, 5:
		g, e = g.Close(id)
		is(t, "Close", e, m.close(id))
	case 6, 7, 8, 9, 10:
		g, e = g.Own(p)
		is(t, "Own", e, m.own(p))
	case 11:
		g, e = g.Release(p)
		is(t, "Release", e, m.release(p))
	case 12, 13:
		g = g.Idle(now)
		m.closeAll(func(c proxy.Conn) bool { return c.Until > 0 && c.Until <= now })
	case 14:
		state := one(r, 1, 2, 2, 2, 2, 2, 2, 3, 4)
		g = g.Turn(state)
		m.turn(state)
	case 15:
		g = g.Turn(2)
		m.turn(2)
	}
	return g
}

func TestByChance(t *testing.T) { // P24.1 to P24.4
	r := rand.New(rand.NewSource(24))
	var all proxy.Counts
	for n := range 300 {
		g, _ := proxy.New(3, mesh())
		m := modelOf(mesh())
		ids := []int{4, 20, 1000}[n%3]
		now := uint64(0)
		for range 400 {
			now += uint64(r.Intn(4))
			g = step(t, r, g, m, ids, now)
			m.follows(t, g)
		}
		is(t, "Config", config.Same(g.Config(), mesh()), true)
		if t.Failed() {
			return
		}
		all = all.Add(g.Counts())
	}
	if all.Accepted < 5000 || all.Closed < 5000 || all.Refused < 5000 {
		t.Errorf("only %v in all", all)
	}
}

func TestZero(t *testing.T) { // P1: what is told beside ErrForm may be asked, too
	zero, e := proxy.New(3, config.Config{Listeners: []config.Listener{{}}})
	is(t, "New", e, api.ErrForm)
	for state := proxy.Starting; state <= proxy.Dead; state++ {
		g := zero.Turn(state).Idle(5)
		_, e := g.Own(spot.Place{})
		is(t, "Own", e, api.ErrNone)
		_, e = g.Release(spot.Place{})
		is(t, "Release", e, api.ErrOwner)
		_, _, e = g.Accept(spot.Place{}, 0, "", "", 0)
		is(t, "Accept", e, [proxy.Dead + 1]api.Errno{0, api.ErrState, api.ErrOwner, api.ErrState, api.ErrState}[state])
		_, e = g.Close(0)
		is(t, "Close", e, api.ErrNone)
		is(t, "Config", config.Same(g.Config(), config.Config{}), true)
		is(t, "Counts", g.Counts(), proxy.Counts{})
	}
}
