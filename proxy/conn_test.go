package proxy_test

import (
	"slices"
	"strings"
	"testing"

	"outrider/api"
	"outrider/config"
	"outrider/proxy"
	"outrider/spot"
)

func TestAccept(t *testing.T) { // P24.2: the cluster of the best route
	for _, c := range []struct {
		place      spot.Place
		host, path string
		now        uint64
		wanted     proxy.Conn
	}{
		{any80, "a.b", "/", 9, proxy.Conn{ID: 1, Cluster: "web"}},
		{any80, "a.b", "/y/x", 9, proxy.Conn{ID: 0, Cluster: "web"}},
		{any80, "z.b", "/x", 9, proxy.Conn{ID: most, Cluster: "two", Until: 14}},
		{any80, "*.b", "/", 0, proxy.Conn{ID: 1, Cluster: "two", Until: 5}},
		{any80, "y.A.B", "/", most - 5, proxy.Conn{ID: 1, Cluster: "two", Until: most}},
		{any80, "z.b", "/", most - 4, proxy.Conn{ID: 1, Cluster: "two", Until: most}},
		{any80, "z.b", "/", most, proxy.Conn{ID: 1, Cluster: "two", Until: most}},
		{any80, "a.b", "/x", 0, proxy.Conn{ID: 1, Cluster: "one", Until: most}},
		{any80, "A.B", "/x/y", 1, proxy.Conn{ID: 1, Cluster: "one", Until: most}},
		{any80, "a.b", "/", 0, proxy.Conn{ID: 1, Cluster: "web"}},
		{any80, "a.b", "/", most, proxy.Conn{ID: 1, Cluster: "web"}}, // for ever
		{own90, "c", "/y", 0, proxy.Conn{ID: 1, Cluster: "web", Until: 7}},
		{own91, "a.b", "/y", 1 << 40, proxy.Conn{ID: 1, Cluster: "two", Until: 1<<40 + 300}},
		{own443, "s.b", "/", 1, proxy.Conn{ID: 1, Cluster: "one", Until: 2}},
	} {
		accepts(t, made(t, proxy.Ready, own91, own443, any80, own90), c.place, c.host, c.path, c.now, c.wanted)
		accepts(t, made(t, proxy.Ready, c.place), c.place, c.host, c.path, c.now, c.wanted)
	}
}

func TestConnsRise(t *testing.T) { // the chapter's word of a generation: connections by rising ids
	ids := []uint64{5, most, 0, 1 << 32, 4, 6, 1<<63 + 1}
	g := made(t, proxy.Ready, any80)
	for i, id := range ids {
		g = accepts(t, g, any80, "a.b", "/x", 0, proxy.Conn{ID: id, Cluster: "one", Until: most})
		rising := slices.Clone(ids[:i+1])
		slices.Sort(rising)
		for k, c := range g.Conns() {
			is(t, "the ids", c.ID, rising[k])
		}
	}
}

func TestAcceptEndpoints(t *testing.T) { // P24.2: a spin for each cluster
	g := made(t, proxy.Ready, any80, own90, own91)
	for id, c := range []struct {
		place      spot.Place
		host, path string
		cluster    string
		endpoint   int
		until      uint64
	}{
		{any80, "a.b", "/", "web", 0, 0},
		{any80, "z.b", "/", "two", 0, 5},
		{own90, "c", "/", "web", 1, 7}, // of both listeners one spin
		{own91, "a.b", "/y", "two", 1, 300},
		{any80, "a.b", "/x", "one", 0, most},
		{any80, "a.b", "/", "web", 0, 0},
		{any80, "z.b", "/", "two", 2, 5},
		{own90, "c", "/", "web", 0, 7},
		{any80, "z.b", "/", "two", 0, 5},
		{any80, "a.b", "/", "web", 1, 0},
		{any80, "a.b", "/x", "one", 0, most},
		{any80, "a.b", "/", "web", 0, 0},
	} {
		g = accepts(t, g, c.place, c.host, c.path, 0, proxy.Conn{ID: uint64(id), Cluster: c.cluster, Endpoint: c.endpoint, Until: c.until})
	}
}

func TestSpinsTurnByWhatIsAcceptedAlone(t *testing.T) { // P24.2
	g := made(t, proxy.Ready, any80, own90)
	g = accepts(t, g, any80, "a.b", "/", 0, proxy.Conn{ID: 1, Cluster: "web"})
	g = turnsDown(t, "no route", g, any80, 2, "a.c", "/", api.ErrNone)
	g = turnsDown(t, "twice", g, any80, 1, "a.b", "/", api.ErrTwice)
	g = turnsDown(t, "owner", g, own91, 2, "a.b", "/", api.ErrOwner)
	g = turnsDown(t, "starting", g.Turn(proxy.Starting), any80, 2, "a.b", "/", api.ErrState).Turn(proxy.Ready)
	g, _ = g.Close(1)
	g = g.Idle(most)
	g, _ = g.Own(own443)
	g, _ = g.Release(own443)
	g = accepts(t, g, any80, "a.b", "/", 0, proxy.Conn{ID: 1, Cluster: "web", Endpoint: 1})
	accepts(t, g, any80, "a.b", "/", 0, proxy.Conn{ID: 3, Cluster: "web", Endpoint: 0})
}

func TestAcceptErrors(t *testing.T) { // P24.2: which is told ahead of which
	g := busy(t)
	for _, state := range []int{proxy.Starting, proxy.Draining, proxy.Dead} {
		for _, p := range []spot.Place{any80, own90, {}} {
			for _, id := range []uint64{7, 8} {
				turnsDown(t, "not ready", g.Turn(state), p, id, "a.b", "/", api.ErrState)
				turnsDown(t, "not ready, and no route", g.Turn(state), p, id, "", "", api.ErrState)
			}
		}
	}
	for _, p := range []spot.Place{own90, own443, {}, {Port: 81}, {IP: own90.IP, Port: 80}} {
		for _, id := range []uint64{7, 8} {
			turnsDown(t, "not its own", g, p, id, "a.b", "/", api.ErrOwner)
			turnsDown(t, "not its own, and no route", g, p, id, "", "", api.ErrOwner)
		}
	}
	for _, id := range []uint64{5, 6, 7} {
		turnsDown(t, "there", g, any80, id, "a.b", "/", api.ErrTwice)
		turnsDown(t, "there, and no route", g, any80, id, "", "", api.ErrTwice)
	}
	released, _ := g.Release(any80)
	turnsDown(t, "released", released, any80, 8, "a.b", "/", api.ErrOwner)
}

func TestAcceptRefused(t *testing.T) { // P24.2: Refused is one more
	g := busy(t)
	for _, c := range []struct {
		place      spot.Place
		host, path string
	}{
		{any80, "c", "/"}, {any80, "s.c", "/"}, {any80, "", "/"}, {any80, "a.b", ""}, {any80, "a.b", "x"}, {any80, "a.b", "//"}, {any80, "a.b", "/\x00"},
		{any80, "b", "/"}, {any80, "a.b", strings.Repeat("/x", 65)},
		{own91, "a.b", "/"}, {own91, "a.b", "/x"}, {own91, "a.b", "/yy"}, {own91, "z.b", "/y"}, // what main's routes match, not inner's
	} {
		g = turnsDown(t, "no route", g, c.place, 8, c.host, c.path, api.ErrNone)
	}
	is(t, "Counts", g.Counts(), proxy.Counts{Accepted: 3, Refused: 13})
	g = accepts(t, g, any80, "a.b", "/", 0, proxy.Conn{ID: 8, Cluster: "web", Endpoint: 1})
	is(t, "Counts", g.Turn(proxy.Dead).Counts(), proxy.Counts{Accepted: 4, Closed: 4, Refused: 13})
}

func TestAcceptFull(t *testing.T) { // P24.2: 64, and no more
	g := made(t, proxy.Ready, any80, own91)
	for id := range uint64(64) {
		g = accepts(t, g, any80, "a.b", "/x", 0, proxy.Conn{ID: 2 * id, Cluster: "one", Until: most})
	}
	for _, id := range []uint64{1, 127, 128, most} {
		turnsDown(t, "full", g, any80, id, "a.b", "/", api.ErrFull)
		turnsDown(t, "full, and no route", g, any80, id, "", "", api.ErrFull)
		turnsDown(t, "full, and another place", g, own91, id, "a.b", "/y", api.ErrFull)
		turnsDown(t, "full, and not its own", g, own90, id, "c", "/", api.ErrOwner)
	}
	for _, id := range []uint64{0, 64, 126} {
		turnsDown(t, "full, and there", g, any80, id, "a.b", "/", api.ErrTwice)
	}
	g, e := g.Close(64)
	is(t, "Close", e, api.OK)
	g = accepts(t, g, any80, "a.b", "/", 0, proxy.Conn{ID: 1, Cluster: "web"})
	turnsDown(t, "full again", g, any80, 64, "a.b", "/", api.ErrFull)
	is(t, "Counts", g.Turn(proxy.Dead).Counts(), proxy.Counts{Accepted: 65, Closed: 65})
}

func TestClose(t *testing.T) { // P24.2
	g := busy(t)
	conns := g.Conns()
	for state := proxy.Starting; state <= proxy.Draining; state++ {
		g := g.Turn(state)
		for i, c := range conns {
			then, e := g.Close(c.ID)
			is(t, "Close", e, api.OK)
			lists(t, "Conns", then.Conns(), slices.Delete(slices.Clone(conns), i, i+1)...)
			is(t, "Counts", then.Counts(), proxy.Counts{Accepted: 3, Closed: 1})
			lists(t, "Owns", then.Owns(), g.Owns()...)
			is(t, "State", then.State(), state)
			again, e := then.Close(c.ID)
			is(t, "Close once more", e, api.ErrNone)
			same(t, "Close once more", again, then)
		}
	}
	for _, id := range []uint64{0, 4, 8, most} {
		then, e := g.Close(id)
		is(t, "Close of none", e, api.ErrNone)
		same(t, "Close of none", then, g)
	}
	_, e := g.Turn(proxy.Dead).Close(7)
	is(t, "Close of what a death closed", e, api.ErrNone)
	_, e = proxy.Gen{}.Close(0)
	is(t, "Close, where there is none", e, api.ErrNone)
}

func TestIdle(t *testing.T) { // P24.2: Until isn't 0, nor above now
	g := busy(t) // Until: of 5 it is 15, of 6 310, of 7 none
	g = accepts(t, g, any80, "a.b", "/x", 10, proxy.Conn{ID: 8, Cluster: "one", Until: most})
	for _, c := range []struct {
		now  uint64
		stay []uint64
	}{
		{0, []uint64{5, 6, 7, 8}}, {14, []uint64{5, 6, 7, 8}}, {15, []uint64{6, 7, 8}}, {16, []uint64{6, 7, 8}}, {309, []uint64{6, 7, 8}},
		{310, []uint64{7, 8}}, {1 << 63, []uint64{7, 8}}, {most - 1, []uint64{7, 8}}, {most, []uint64{7}},
	} {
		for state := proxy.Ready; state <= proxy.Draining; state++ {
			then := g.Turn(state).Idle(c.now)
			var ids []uint64
			for _, x := range then.Conns() {
				ids = append(ids, x.ID)
			}
			lists(t, "who stays", ids, c.stay...)
			is(t, "Counts", then.Counts(), proxy.Counts{Accepted: 4, Closed: 4 - uint64(len(c.stay))})
			lists(t, "Owns", then.Owns(), g.Turn(state).Owns()...)
			is(t, "State", then.State(), state)
			same(t, "Idle once more", then.Idle(c.now), then)
		}
	}
	is(t, "Counts of one that is dead", g.Turn(proxy.Dead).Idle(most).Counts(), proxy.Counts{Accepted: 4, Closed: 4})
}

func TestAcceptIsNotIdle(t *testing.T) { // P24.2: when one comes, none goes, though it could
	g := accepts(t, busy(t), any80, "a.b", "/", 1000, proxy.Conn{ID: 9, Cluster: "web", Endpoint: 1})
	turnsDown(t, "one that was idle too long is there yet", g, any80, 5, "a.b", "/", api.ErrTwice)
	g = accepts(t, g.Idle(1000), any80, "a.b", "/", 1000, proxy.Conn{ID: 5, Cluster: "web", Endpoint: 0})
	is(t, "Counts", g.Counts(), proxy.Counts{Accepted: 5, Closed: 2})
}

func TestAnswersAreNew(t *testing.T) { // the rule on memory
	c := mesh()
	room := append(c.Listeners, config.Listener{Name: "room"})
	c.Listeners = room[:4]
	g, _ := proxy.New(3, c)
	is(t, "spare room", room[4].Name, "room")
	c.Listeners[1].Routes[1].Cluster, c.Listeners[3].Place, c.Clusters[0].Endpoints[0].Weight = "one", spot.Place{}, 100
	is(t, "what was handed in isn't kept", config.Same(g.Config(), mesh()), true)
	told := g.Config()
	told.Listeners[1].Routes[1].Cluster, told.Listeners[3].Place, told.Clusters[0].Endpoints[0].Weight = "one", spot.Place{}, 100
	is(t, "nor what was told", config.Same(g.Config(), mesh()), true)

	g = busy(t)
	wanted := busy(t)
	owns, conns := g.Owns(), g.Conns()
	for i := range owns {
		owns[i] = spot.Place{Port: 1}
	}
	for i := range conns {
		conns[i] = proxy.Conn{ID: 1}
	}
	same(t, "when what it told is written to", g, wanted)
}

func TestGenerationsStayAsTheyWere(t *testing.T) { // P24.3
	g := busy(t)
	for range 2 { // the second time, what a call did to the one ahead of it would be seen
		owned, _ := g.Own(own443)
		owned2, _ := g.Own(own90)
		released, _ := g.Release(any80)
		closed, _ := g.Close(5)
		accepted := accepts(t, g, any80, "a.b", "/", 0, proxy.Conn{ID: 1, Cluster: "web", Endpoint: 1})
		accepted2 := accepts(t, g, any80, "a.b", "/", 0, proxy.Conn{ID: 9, Cluster: "web", Endpoint: 1})
		refused := turnsDown(t, "no route", g, any80, 1, "", "", api.ErrNone)
		idle := g.Idle(15)
		dead := g.Turn(proxy.Dead)
		drained := g.Turn(proxy.Draining)
		accepts(t, accepted, any80, "a.b", "/", 0, proxy.Conn{ID: 2, Cluster: "web", Endpoint: 0})
		accepts(t, closed, any80, "a.b", "/", 0, proxy.Conn{ID: 8, Cluster: "web", Endpoint: 1})

		same(t, "as it was", g, busy(t))
		lists(t, "Owns", owned.Owns(), any80, own91, own443)
		lists(t, "Owns", owned2.Owns(), any80, own90, own91)
		lists(t, "Owns", released.Owns(), own91)
		is(t, "Conns", len(accepted.Conns()), 4)
		is(t, "Conns", accepted2.Conns()[3].ID, 9)
		is(t, "Conns", accepted.Conns()[3].ID, 7)
		is(t, "Conns", len(closed.Conns()), 2)
		is(t, "Conns", len(idle.Conns()), 2)
		is(t, "Conns", len(drained.Conns()), 3)
		is(t, "Counts", refused.Counts(), proxy.Counts{Accepted: 3, Refused: 1})
		is(t, "Counts", dead.Counts(), proxy.Counts{Accepted: 3, Closed: 3})
		is(t, "Counts", drained.Counts(), proxy.Counts{Accepted: 3})
	}
}

func TestPlacesStayAsTheyWere(t *testing.T) { // P24.3: with as many as leave a list spare room
	for _, last := range []spot.Place{any80, own90, own91, own443} {
		others := slices.DeleteFunc([]spot.Place{any80, own90, own91, own443}, func(p spot.Place) bool { return p == last })
		g := made(t, proxy.Ready, others...)
		all, _ := g.Own(last)
		less, _ := all.Release(others[0])
		lists(t, "Owns", g.Owns(), others...)
		lists(t, "Owns", all.Owns(), any80, own90, own91, own443)
		is(t, "how many", len(less.Owns()), 3)
	}
}
