package machine_test

import (
	"math"
	"slices"
	"testing"

	"outrider/agent"
	"outrider/api"
	"outrider/backoff"
	"outrider/config"
	"outrider/disk"
	"outrider/finger"
	"outrider/ledger"
	"outrider/machine"
	"outrider/pipe"
	"outrider/session"
	"outrider/spot"
	"outrider/status"
)

const (
	most    = math.MaxUint64
	forever = 1 << 40 // of a fuse: none
)

// The kinds, by their numbers in the chapter.
const (
	message = 0
	tick    = 1
	lost    = 2
	ready   = 3
	died    = 4
	deliver = 5
	double  = 6
	lose    = 7
	accept  = 8
	shut    = 9
	take    = 10
	clean   = 11
	fuse    = 12
	crash   = 13
)

func is[T comparable](t *testing.T, what string, got, wanted T) {
	t.Helper()
	if got != wanted {
		t.Errorf("%s: %v, wanted %v", what, got, wanted)
	}
}

// lists: have two lists the same elements?
func lists[T comparable](t *testing.T, what string, got []T, wanted ...T) {
	t.Helper()
	if !slices.Equal(got, wanted) {
		t.Errorf("%s: %v, wanted %v", what, got, wanted)
	}
}

func place(port uint16) spot.Place { return spot.Place{IP: [4]byte{127, 0, 0, 1}, Port: port} }

// shared: a place that all configs of on listen at, as text.
const shared = "0.0.0.0:80"

// on: a config that is fine, and listens at the shared place and at a port of its own; of another port it has another print.
func on(port uint16) config.Config {
	routes := []config.Route{{Host: "a.b", Path: "/", Cluster: "web", Idle: 100}}
	return config.Config{
		Version:   1000 + uint64(port),
		Listeners: []config.Listener{{Name: "main", Place: spot.Place{Port: 80}, Routes: routes}, {Name: "own", Place: place(port), Routes: routes}},
		Clusters:  []config.Cluster{{Name: "web", Endpoints: []config.Endpoint{{Place: place(8080), Weight: 1}, {Place: place(8081), Weight: 1}}}},
	}
}

func written(c config.Config) string {
	s, e := c.Bytes()
	if e != api.OK {
		panic(e)
	}
	return s
}

func printOf(c config.Config) api.Print {
	p, e := finger.Of(c)
	if e != api.OK {
		panic(e)
	}
	return p
}

func ack(epoch, version, nonce uint64) string {
	return session.Message(session.Ack, epoch, "", version, nonce)
}

func nack(epoch, version, nonce uint64, code api.Errno) string {
	return session.Message(session.Nack, epoch, "", version, nonce, uint64(code))
}

func subscribe(epoch, version uint64) string {
	return session.Message(session.Subscribe, epoch, "", version)
}

// Events.

func of(kind int, n uint64) machine.Event { return machine.Event{Kind: kind, N: n} }

func text(s string) machine.Event { return machine.Event{Text: s} }

// offer: of the epoch 1.
func offer(nonce uint64, c config.Config) machine.Event {
	return text(session.Message(session.Offered, 1, written(c), c.Version, nonce))
}

func comes(id uint64, at, host, path string) machine.Event {
	return machine.Event{Kind: accept, N: id, Text: at, Host: host, Path: path}
}

func cleared(c config.Config) machine.Event {
	return machine.Event{Kind: clean, Text: finger.Text(printOf(c))}
}

// setting: one of so many deaths.
func setting(k int) agent.Setting {
	return agent.Setting{K: k, Drain: 5, Wait: backoff.Wait{Base: 2, Cap: 8}}
}

func fresh(t *testing.T, k int) *machine.Machine {
	t.Helper()
	m, e := machine.New(api.MaxDisk, setting(k))
	if e != api.OK || m == nil {
		t.Fatalf("New: %v", e)
	}
	return m
}

// does: all of these are done, with nothing else to tell.
func does(t *testing.T, m *machine.Machine, l ...machine.Event) {
	t.Helper()
	for _, e := range l {
		is(t, "the answer", m.Do(e), machine.Answer{})
	}
}

// codes holds a machine to a code, and to nothing beside it.
func codes(t *testing.T, what string, m *machine.Machine, e machine.Event, wanted api.Errno) {
	t.Helper()
	is(t, what, m.Do(e), machine.Answer{Code: wanted})
}

// takes holds a machine to all that goes out, and takes it.
func takes(t *testing.T, m *machine.Machine, wanted ...string) {
	t.Helper()
	for _, s := range wanted {
		is(t, "what is taken", m.Do(of(take, 0)), machine.Answer{Text: s})
	}
	codes(t, "Take of nothing", m, of(take, 0), api.ErrNone)
}

// serving: a machine of which on(81) serves, as the generation 1, by the nonce 1 of the epoch 1.
func serving(t *testing.T, k int) *machine.Machine {
	t.Helper()
	m := fresh(t, k)
	does(t, m, of(tick, 0), offer(1, on(81)), of(ready, 1))
	takes(t, m, subscribe(1, 0), ack(1, 1081, 1))
	is(t, "one serves", m.Status().Gen, 1)
	return m
}

// handed delivers all that is on the pipe, till nothing is.
func handed(t *testing.T, m *machine.Machine) {
	t.Helper()
	for m.Agent().Crew().Pipe().Len() > 0 {
		does(t, m, of(deliver, 0))
	}
}

// last: the version of the last generation's config; 0, where none lives.
func last(m *machine.Machine) uint64 {
	l := m.Agent().Crew().Gens()
	if len(l) == 0 {
		return 0
	}
	return l[len(l)-1].Config().Version
}

func versions(a *agent.Agent) []uint64 {
	var all []uint64
	for _, k := range a.Cache().Slots() {
		all = append(all, k.Config.Version)
	}
	return all
}

// told is all that an agent and its disk tell.
type told struct {
	status            status.Status
	down              bool
	used, steps, turn int
	session           session.Session
	names, out        []string
	slots             []uint64
	entries           []ledger.Entry
	pipe              []pipe.Item
	gens              []uint64 // numbers, states, how much each owns
}

func tell(a *agent.Agent, d *disk.Disk) told {
	x := told{status: status.Of(a), down: d.Down(), used: d.Used(), steps: d.Steps(), turn: d.Pending(), session: a.Session(), names: d.Names(), out: a.Out()}
	x.slots, x.entries, x.pipe = versions(a), a.Cache().All(), a.Crew().Pipe().All()
	for _, g := range a.Crew().Gens() {
		x.gens = append(x.gens, g.ID(), uint64(g.State()), uint64(len(g.Owns())))
	}
	return x
}

// same holds a machine, or what it is like, to what was told.
func same(t *testing.T, what string, got, wanted told) {
	t.Helper()
	is(t, what+": status", got.status, wanted.status)
	is(t, what+": down", got.down, wanted.down)
	lists(t, what+": the disk's numbers", []int{got.used, got.steps, got.turn}, wanted.used, wanted.steps, wanted.turn)
	is(t, what+": session", got.session, wanted.session)
	lists(t, what+": names", got.names, wanted.names...)
	lists(t, what+": out", got.out, wanted.out...)
	lists(t, what+": slots", got.slots, wanted.slots...)
	lists(t, what+": entries", got.entries, wanted.entries...)
	lists(t, what+": pipe", got.pipe, wanted.pipe...)
	lists(t, what+": generations", got.gens, wanted.gens...)
}
