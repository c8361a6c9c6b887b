package status_test

import (
	"math"
	"slices"
	"testing"

	"outrider/agent"
	"outrider/api"
	"outrider/backoff"
	"outrider/config"
	"outrider/disk"
	"outrider/finger"
	"outrider/session"
	"outrider/spot"
	"outrider/status"
)

const most = math.MaxUint64

func is[T comparable](t *testing.T, what string, got, wanted T) {
	t.Helper()
	if got != wanted {
		t.Errorf("%s: %v, wanted %v", what, got, wanted)
	}
}

// lists: have two lists the same elements?
func lists[T comparable](t *testing.T, what string, got []T, wanted ...T) {
	t.Helper()
	if !slices.Equal(got, wanted) {
		t.Errorf("%s: %v, wanted %v", what, got, wanted)
	}
}

// does: was that done?
func does(t *testing.T, what string, e api.Errno) {
	t.Helper()
	is(t, what, e, api.OK)
}

// shared: a place that all configs of on listen at.
var shared = spot.Place{Port: 80}

// on: a config that is fine, and listens at the shared place and at a port of its own; of another port it has another print.
func on(port uint16) config.Config {
	routes := []config.Route{{Host: "a.b", Path: "/", Cluster: "web", Idle: 100}}
	return config.Config{
		Version:   1000 + uint64(port),
		Listeners: []config.Listener{{Name: "main", Place: shared, Routes: routes}, {Name: "own", Place: spot.Place{Port: port}, Routes: routes}},
		Clusters:  []config.Cluster{{Name: "web", Endpoints: []config.Endpoint{{Place: spot.Place{IP: [4]byte{10}, Port: 8080}, Weight: 1}}}},
	}
}

func printOf(c config.Config) api.Print {
	p, e := finger.Of(c)
	if e != api.OK {
		panic(e)
	}
	return p
}

func offer(epoch, nonce uint64, c config.Config) string {
	s, e := c.Bytes()
	if e != api.OK {
		panic(e)
	}
	return session.Message(session.Offered, epoch, s, c.Version, nonce)
}

// fresh: an agent on a new disk, of so many deaths.
func fresh(t *testing.T, k int) (*disk.Disk, *agent.Agent) {
	t.Helper()
	d, e := disk.New(api.MaxDisk)
	does(t, "disk.New", e)
	a, e := agent.Boot(d, agent.Setting{K: k, Drain: 5, Wait: backoff.Wait{Base: 2, Cap: 8}})
	if e != api.OK {
		t.Fatalf("Boot: %v", e)
	}
	return d, a
}

// handed delivers all that is on the pipe, till nothing is.
func handed(t *testing.T, a *agent.Agent) {
	t.Helper()
	for a.Crew().Pipe().Len() > 0 {
		does(t, "Deliver", a.Deliver(0))
	}
}

// reads holds a status to being read as it was told.
func reads(t *testing.T, s status.Status) {
	t.Helper()
	got, e := status.Parse(s.Text())
	does(t, "Parse of its text", e)
	is(t, "Parse of its text", got, s)
}
