package report_test

import (
	"math"
	"slices"
	"strconv"
	"testing"

	"outrider/api"
	"outrider/config"
	"outrider/crew"
	"outrider/finger"
	"outrider/proxy"
	"outrider/spot"
)

const most = math.MaxUint64

func is[T comparable](t *testing.T, what string, got, wanted T) {
	t.Helper()
	if got != wanted {
		t.Errorf("%s: %v, wanted %v", what, got, wanted)
	}
}

// lists: have two lists the same elements?
func lists[T comparable](t *testing.T, what string, got []T, wanted ...T) {
	t.Helper()
	if !slices.Equal(got, wanted) {
		t.Errorf("%s: %v, wanted %v", what, got, wanted)
	}
}

func place(port uint16) spot.Place { return spot.Place{IP: [4]byte{127, 0, 0, 1}, Port: port} }

// on: a config that is fine, and listens at these ports, for the host a.b alone; connections may be idle for 10 ticks.
func on(ports ...uint16) config.Config {
	c := config.Config{Version: 4, Clusters: []config.Cluster{{Name: "web", Endpoints: []config.Endpoint{{Place: place(8080), Weight: 1}}}}}
	for i, p := range ports {
		c.Listeners = append(c.Listeners, config.Listener{
			Name: "l" + strconv.Itoa(i), Place: place(p), Routes: []config.Route{{Host: "a.b", Path: "/", Cluster: "web", Idle: 10}},
		})
	}
	return c
}

// text: that of a config's print.
func text(t *testing.T, c config.Config) string {
	t.Helper()
	p, e := finger.Of(c)
	is(t, "finger.Of", e, api.OK)
	return finger.Text(p)
}

func gen(t *testing.T, id uint64, c config.Config) proxy.Gen {
	t.Helper()
	g, e := proxy.New(id, c)
	is(t, "proxy.New", e, api.OK)
	return g
}

// Each of these does what it must with a crew, and answers the crew then.

func start(t *testing.T, c crew.Crew, x config.Config) crew.Crew {
	t.Helper()
	c, _, e := c.Start(x)
	is(t, "Start", e, api.OK)
	return c
}

func ready(t *testing.T, c crew.Crew, id uint64) crew.Crew {
	t.Helper()
	c, e := c.Ready(id, 0)
	is(t, "Ready", e, api.OK)
	return c
}

func comes(t *testing.T, c crew.Crew, port uint16, id uint64, host string, wanted api.Errno) crew.Crew {
	t.Helper()
	c, _, _, e := c.Accept(place(port), id, host, "/", 0)
	is(t, "Accept", e, wanted)
	return c
}

func delivered(t *testing.T, c crew.Crew) crew.Crew {
	t.Helper()
	c, e := c.Deliver(0, 0)
	is(t, "Deliver", e, api.OK)
	return c
}
