package proxy_test

import (
	"math"
	"slices"
	"testing"

	"outrider/api"
	"outrider/config"
	"outrider/finger"
	"outrider/proxy"
	"outrider/spot"
)

const most = math.MaxUint64

// The places of main's config, rising.
var (
	any80  = spot.Place{Port: 80}
	own90  = spot.Place{IP: [4]byte{127, 0, 0, 1}, Port: 90}
	own91  = spot.Place{IP: [4]byte{127, 0, 0, 1}, Port: 91}
	own443 = spot.Place{IP: [4]byte{200}, Port: 443}
)

func is[T comparable](t *testing.T, what string, got, wanted T) {
	t.Helper()
	if got != wanted {
		t.Errorf("%s: %v, wanted %v", what, got, wanted)
	}
}

// lists: have two lists the same elements?
func lists[T comparable](t *testing.T, what string, got []T, wanted ...T) {
	t.Helper()
	if !slices.Equal(got, wanted) {
		t.Errorf("%s: %v, wanted %v", what, got, wanted)
	}
}

func cluster(name string, weights ...int) config.Cluster {
	c := config.Cluster{Name: name}
	for i, w := range weights {
		c.Endpoints = append(c.Endpoints, config.Endpoint{Place: spot.Place{IP: [4]byte{10, 0, 0, byte(i)}, Port: 8080}, Weight: w})
	}
	return c
}

// mesh: a config that is fine, of four listeners and three clusters; neither stand in the order of their places or names.
func mesh() config.Config {
	return config.Config{Version: 4, Listeners: []config.Listener{
		{Name: "secure", Place: own443, Routes: []config.Route{{Host: "s.b", Path: "/", Cluster: "one", Idle: 1}}},
		{Name: "main", Place: any80, Routes: []config.Route{
			{Host: "*.b", Path: "/", Cluster: "two", Idle: 5},
			{Host: "a.b", Path: "/", Cluster: "web"},
			{Host: "a.b", Path: "/x", Cluster: "one", Idle: most},
		}},
		{Name: "inner", Place: own91, Routes: []config.Route{{Host: "a.b", Path: "/y", Cluster: "two", Idle: 300}}},
		{Name: "other", Place: own90, Routes: []config.Route{{Host: "c", Path: "/", Cluster: "web", Idle: 7}}},
	}, Clusters: []config.Cluster{cluster("web", 2, 1), cluster("one", 100), cluster("two", 1, 1, 1)}}
}

// made: a generation of mesh, of a state that isn't Dead or Draining, that owns those places.
func made(t *testing.T, state int, places ...spot.Place) proxy.Gen {
	t.Helper()
	g, e := proxy.New(3, mesh())
	is(t, "New", e, api.OK)
	g = g.Turn(state)
	for _, p := range places {
		g, e = g.Own(p)
		is(t, "Own", e, api.OK)
	}
	return g
}

// busy: one that is Ready, owns two places, and has three connections.
func busy(t *testing.T) proxy.Gen {
	t.Helper()
	g := made(t, proxy.Ready, any80, own91)
	g = accepts(t, g, any80, "a.b", "/", 10, proxy.Conn{ID: 7, Cluster: "web"})
	g = accepts(t, g, any80, "z.b", "/", 10, proxy.Conn{ID: 5, Cluster: "two", Until: 15})
	return accepts(t, g, own91, "a.b", "/y", 10, proxy.Conn{ID: 6, Cluster: "two", Endpoint: 1, Until: 310})
}

// same holds a generation to another one, by all that they tell.
func same(t *testing.T, what string, got, wanted proxy.Gen) {
	t.Helper()
	is(t, what+": ID", got.ID(), wanted.ID())
	is(t, what+": State", got.State(), wanted.State())
	is(t, what+": Config", config.Same(got.Config(), wanted.Config()), true)
	is(t, what+": Print", got.Print(), wanted.Print())
	lists(t, what+": Owns", got.Owns(), wanted.Owns()...)
	lists(t, what+": Conns", got.Conns(), wanted.Conns()...)
	is(t, what+": Counts", got.Counts(), wanted.Counts())
}

// accepts holds Accept to a connection, and answers the generation then; all but that one is as it was.
func accepts(t *testing.T, g proxy.Gen, p spot.Place, host, path string, now uint64, wanted proxy.Conn) proxy.Gen {
	t.Helper()
	then, c, e := g.Accept(p, wanted.ID, host, path, now)
	is(t, "Accept", e, api.OK)
	is(t, "the connection", c, wanted)
	conns := append(g.Conns(), wanted)
	slices.SortFunc(conns, func(a, b proxy.Conn) int {
		if a.ID < b.ID {
			return -1
		}
		return 1
	})
	lists(t, "Conns", then.Conns(), conns...)
	is(t, "Counts", then.Counts(), g.Counts().Add(proxy.Counts{Accepted: 1}))
	lists(t, "Owns", then.Owns(), g.Owns()...)
	is(t, "State", then.State(), g.State())
	return then
}

// turnsDown holds Accept to an error; the generation is as it was, but for what it refused.
func turnsDown(t *testing.T, what string, g proxy.Gen, p spot.Place, id uint64, host, path string, wanted api.Errno) proxy.Gen {
	t.Helper()
	then, c, e := g.Accept(p, id, host, path, 10)
	is(t, what, e, wanted)
	is(t, what+": the connection", c, proxy.Conn{})
	if wanted != api.ErrNone {
		same(t, what, then, g)
		return then
	}
	is(t, what+": Counts", then.Counts(), g.Counts().Add(proxy.Counts{Refused: 1}))
	lists(t, what+": Conns", then.Conns(), g.Conns()...)
	lists(t, what+": Owns", then.Owns(), g.Owns()...)
	is(t, what+": State", then.State(), g.State())
	return then
}

func TestStates(t *testing.T) { // the chapter's numbers
	lists(t, "states", []int{proxy.Starting, proxy.Ready, proxy.Draining, proxy.Dead}, 1, 2, 3, 4)
}

func TestNew(t *testing.T) { // P24.1
	for _, c := range []config.Config{{}, {Version: most}, mesh()} {
		for _, id := range []uint64{0, 1, 3, most} {
			g, e := proxy.New(id, c)
			is(t, "New", e, api.OK)
			is(t, "ID", g.ID(), id)
			is(t, "State", g.State(), proxy.Starting)
			is(t, "Config", config.Same(g.Config(), c), true)
			p, _ := finger.Of(c)
			is(t, "Print", g.Print(), p)
			lists(t, "Owns", g.Owns())
			lists(t, "Conns", g.Conns())
			is(t, "Counts", g.Counts(), proxy.Counts{})
		}
	}
}

func TestNewOfWhatIsNotFine(t *testing.T) { // P24.1
	for what, spoil := range map[string]func(c *config.Config){
		"no name":      func(c *config.Config) { c.Listeners[0].Name = "" },
		"two of one":   func(c *config.Config) { c.Listeners[2].Name = "main" },
		"no port":      func(c *config.Config) { c.Listeners[0].Place.Port = 0 },
		"they meet":    func(c *config.Config) { c.Listeners[2].Place.Port = 80 },
		"no routes":    func(c *config.Config) { c.Listeners[1].Routes = nil },
		"no cluster":   func(c *config.Config) { c.Clusters = c.Clusters[1:] },
		"no endpoints": func(c *config.Config) { c.Clusters[2].Endpoints = nil },
		"weight 0":     func(c *config.Config) { c.Clusters[0].Endpoints[1].Weight = 0 },
		"weight 101":   func(c *config.Config) { c.Clusters[0].Endpoints[1].Weight = 101 },
		"too many":     func(c *config.Config) { c.Clusters = make([]config.Cluster, 9) },
	} {
		c := mesh()
		spoil(&c)
		g, e := proxy.New(3, c)
		is(t, what, e, api.ErrForm)
		same(t, what, g, proxy.Gen{})
		is(t, what+": State", g.State(), 0)
	}
}

func TestTurn(t *testing.T) { // P24.1
	for _, from := range []int{proxy.Starting, proxy.Ready} {
		for to := proxy.Starting; to <= proxy.Dead; to++ {
			g := busy(t).Turn(from)
			then := g.Turn(to)
			is(t, "State", then.State(), to)
			is(t, "ID", then.ID(), 3)
			is(t, "Config", config.Same(then.Config(), mesh()), true)
			is(t, "Print", then.Print(), g.Print())
			switch to {
			case proxy.Dead:
				lists(t, "Owns of one that is dead", then.Owns())
				lists(t, "Conns of one that is dead", then.Conns())
				is(t, "Counts of one that is dead", then.Counts(), proxy.Counts{Accepted: 3, Closed: 3})
				is(t, "Counts of one that dies twice", then.Turn(to).Counts(), proxy.Counts{Accepted: 3, Closed: 3})
			case proxy.Draining:
				lists(t, "Owns of one that drains", then.Owns())
				lists(t, "Conns of one that drains", then.Conns(), g.Conns()...)
				is(t, "Counts of one that drains", then.Counts(), proxy.Counts{Accepted: 3})
			default:
				lists(t, "Owns", then.Owns(), any80, own91)
				lists(t, "Conns", then.Conns(), g.Conns()...)
				is(t, "Counts", then.Counts(), proxy.Counts{Accepted: 3})
			}
		}
	}
	g := busy(t).Turn(proxy.Draining).Turn(proxy.Dead)
	lists(t, "Conns of one that drained", g.Conns())
	is(t, "Counts of one that drained", g.Counts(), proxy.Counts{Accepted: 3, Closed: 3})
	lists(t, "Owns of one that is Ready again", busy(t).Turn(proxy.Draining).Turn(proxy.Ready).Owns())
	g, _ = busy(t).Close(6)
	is(t, "what was closed isn't closed twice", g.Turn(proxy.Dead).Counts(), proxy.Counts{Accepted: 3, Closed: 3})
}

func TestOwn(t *testing.T) { // P24.1
	for _, state := range []int{proxy.Starting, proxy.Ready} {
		for _, order := range [][]spot.Place{
			{any80, own90, own91, own443}, {own443, own91, own90, any80}, {own91, any80, own443, own90},
		} {
			g := made(t, state)
			var owned []spot.Place
			for _, p := range order {
				then, e := g.Own(p)
				is(t, "Own", e, api.OK)
				owned = append(owned, p)
				slices.SortFunc(owned, spot.Cmp)
				lists(t, "Owns, rising", then.Owns(), owned...)
				is(t, "State", then.State(), state)
				is(t, "Counts", then.Counts(), proxy.Counts{})
				g = then
			}
			for _, p := range order {
				then, e := g.Own(p)
				is(t, "Own of what it owns", e, api.ErrThere)
				same(t, "Own of what it owns", then, g)
			}
		}
	}
}

func TestOwnErrors(t *testing.T) { // P24.1: which is told ahead of which
	nobodys := []spot.Place{{}, {Port: 81}, {IP: any80.IP}, {IP: own90.IP, Port: 80}, {Port: 90}, {IP: [4]byte{10}, Port: 8080}, {IP: own443.IP, Port: 444}}
	for state := proxy.Starting; state <= proxy.Dead; state++ {
		g := busy(t).Turn(state)
		for _, p := range nobodys {
			then, e := g.Own(p)
			is(t, "Own of what no listener has", e, api.ErrNone)
			same(t, "Own of what no listener has", then, g)
		}
		wanted := [proxy.Dead + 1][2]api.Errno{{}, {api.ErrThere, api.OK}, {api.ErrThere, api.OK}, {api.ErrState, api.ErrState}, {api.ErrState, api.ErrState}}[state]
		then, e := g.Own(own91)
		is(t, "Own of what it owned", e, wanted[0])
		same(t, "Own of what it owned", then, g)
		then, e = g.Own(own443)
		is(t, "Own of what it doesn't own", e, wanted[1])
		if wanted[1] != api.OK {
			same(t, "Own of what it doesn't own", then, g)
		}
	}
	g, _ := proxy.New(1, config.Config{})
	_, e := g.Own(any80)
	is(t, "Own, where there are no listeners", e, api.ErrNone)
	g, _ = proxy.New(1, config.Config{Listeners: []config.Listener{{}}})
	_, e = g.Own(spot.Place{})
	is(t, "Own of the zero one", e, api.ErrNone)
}

func TestRelease(t *testing.T) { // P24.1
	all := []spot.Place{any80, own90, own91, own443}
	for _, state := range []int{proxy.Starting, proxy.Ready} {
		g := made(t, state, all...)
		for i, p := range all {
			then, e := g.Release(p)
			is(t, "Release", e, api.OK)
			lists(t, "Owns", then.Owns(), slices.Delete(slices.Clone(all), i, i+1)...)
			is(t, "State", then.State(), state)
			again, e := then.Release(p)
			is(t, "Release once more", e, api.ErrOwner)
			same(t, "Release once more", again, then)
			then, e = then.Own(p)
			is(t, "Own of what was released", e, api.OK)
			same(t, "Own of what was released", then, g)
		}
	}
	for state := proxy.Starting; state <= proxy.Dead; state++ {
		g := busy(t).Turn(state)
		for _, p := range []spot.Place{own90, own443, {}, {Port: 81}, {IP: own90.IP, Port: 80}} {
			then, e := g.Release(p)
			is(t, "Release of what it doesn't own", e, api.ErrOwner)
			same(t, "Release of what it doesn't own", then, g)
		}
		if state >= proxy.Draining {
			_, e := g.Release(any80)
			is(t, "Release of what it owned", e, api.ErrOwner)
		}
	}
	g, e := busy(t).Release(any80)
	is(t, "Release of where connections came", e, api.OK)
	lists(t, "its connections stay", g.Conns(), busy(t).Conns()...)
}

func TestCountsAdd(t *testing.T) { // P24.3
	is(t, "Add", proxy.Counts{Accepted: 1, Closed: 20, Refused: 300}.Add(proxy.Counts{Accepted: 4000, Closed: 50000, Refused: 600000}),
		proxy.Counts{Accepted: 4001, Closed: 50020, Refused: 600300})
	is(t, "Add of nothing", proxy.Counts{}.Add(proxy.Counts{}), proxy.Counts{})
	is(t, "Add at the ends", proxy.Counts{Accepted: most, Closed: most - 1, Refused: 1}.Add(proxy.Counts{Accepted: 1, Closed: 1, Refused: most}),
		proxy.Counts{Accepted: most, Closed: most, Refused: most})
	is(t, "Add beyond the ends", proxy.Counts{Accepted: most, Closed: 1 << 63, Refused: most - 1}.Add(proxy.Counts{Accepted: most, Closed: 1 << 63, Refused: 2}),
		proxy.Counts{Accepted: most, Closed: most, Refused: most})
	is(t, "Add just below", proxy.Counts{Accepted: 1 << 63}.Add(proxy.Counts{Accepted: 1<<63 - 1, Closed: most - 1, Refused: most}),
		proxy.Counts{Accepted: most, Closed: most - 1, Refused: most})
}
