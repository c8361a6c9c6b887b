package agent_test

import (
	"math"
	"slices"
	"testing"

	"outrider/agent"
	"outrider/api"
	"outrider/backoff"
	"outrider/cache"
	"outrider/config"
	"outrider/crew"
	"outrider/disk"
	"outrider/finger"
	"outrider/ledger"
	"outrider/pipe"
	"outrider/proxy"
	"outrider/session"
	"outrider/slot"
	"outrider/spot"
)

const most = math.MaxUint64

const (
	starting = proxy.Starting
	isReady  = proxy.Ready
	draining = proxy.Draining
)

func is[T comparable](t *testing.T, what string, got, wanted T) {
	t.Helper()
	if got != wanted {
		t.Errorf("%s: %.300v, wanted %.300v", what, got, wanted)
	}
}

// lists: have two lists the same elements?
func lists[T comparable](t *testing.T, what string, got []T, wanted ...T) {
	t.Helper()
	if !slices.Equal(got, wanted) {
		t.Errorf("%s: %.300v, wanted %.300v", what, got, wanted)
	}
}

func place(port uint16) spot.Place { return spot.Place{IP: [4]byte{127, 0, 0, 1}, Port: port} }

// shared: a place that all configs of on listen at.
var shared = spot.Place{Port: 80}

// on: a config that is fine, and listens at the shared place and at a port of its own; of another port it has another print.
func on(port uint16) config.Config {
	routes := []config.Route{{Host: "a.b", Path: "/", Cluster: "web", Idle: 100}}
	return config.Config{
		Version:   1000 + uint64(port),
		Listeners: []config.Listener{{Name: "main", Place: shared, Routes: routes}, {Name: "own", Place: place(port), Routes: routes}},
		Clusters:  []config.Cluster{{Name: "web", Endpoints: []config.Endpoint{{Place: place(8080), Weight: 1}}}},
	}
}

// versioned: the same, of another version.
func versioned(c config.Config, version uint64) config.Config {
	c.Version = version
	return c
}

// broken: one that isn't fine, since it has no cluster.
func broken() config.Config {
	c := on(81)
	c.Clusters = nil
	return c
}

func written(c config.Config) string {
	s, e := c.Bytes()
	if e != api.OK {
		panic(e)
	}
	return s
}

func printOf(c config.Config) api.Print {
	p, e := finger.Of(c)
	if e != api.OK {
		panic(e)
	}
	return p
}

// Messages.

func subscribe(epoch, version uint64) string {
	return session.Message(session.Subscribe, epoch, "", version)
}

func offer(epoch, nonce uint64, c config.Config) string {
	return session.Message(session.Offered, epoch, written(c), c.Version, nonce)
}

func ack(epoch, version, nonce uint64) string {
	return session.Message(session.Ack, epoch, "", version, nonce)
}

func nack(epoch, version, nonce uint64, code api.Errno) string {
	return session.Message(session.Nack, epoch, "", version, nonce, uint64(code))
}

// setting: one of so many deaths.
func setting(k int) agent.Setting {
	return agent.Setting{K: k, Drain: 5, Wait: backoff.Wait{Base: 2, Cap: 8}}
}

func fresh(t *testing.T) *disk.Disk {
	t.Helper()
	d, e := disk.New(api.MaxDisk)
	is(t, "disk.New", e, api.OK)
	return d
}

func boot(t *testing.T, d *disk.Disk, k int) *agent.Agent {
	t.Helper()
	a, e := agent.Boot(d, setting(k))
	if e != api.OK || a == nil {
		t.Fatalf("Boot: %v", e)
	}
	return a
}

// kept: a cache of that disk, of which somebody may ask what an agent asks.
func kept(t *testing.T, d *disk.Disk, k int) *cache.Cache {
	t.Helper()
	c, e := cache.Open(d, k)
	if e != api.OK {
		t.Fatalf("Open: %v", e)
	}
	return c
}

// talking: an agent whose session is open, of the epoch 1, and whose Subscribe was taken.
func talking(t *testing.T, d *disk.Disk, k int) *agent.Agent {
	t.Helper()
	a := boot(t, d, k)
	does(t, "Tick", a.Tick(0))
	takes(t, a, subscribe(1, a.Session().Version))
	return a
}

// does: was that done?
func does(t *testing.T, what string, e api.Errno) {
	t.Helper()
	is(t, what, e, api.OK)
}

// takes holds an agent to all that goes out, and takes it.
func takes(t *testing.T, a *agent.Agent, wanted ...string) {
	t.Helper()
	lists(t, "Out", a.Out(), wanted...)
	for _, s := range wanted {
		text, ok := a.Take()
		is(t, "what is taken", text, s)
		is(t, "Take", ok, true)
	}
	text, ok := a.Take()
	is(t, "Take of nothing", text == "" && !ok, true)
}

// given: a config is offered, and taken.
func given(t *testing.T, a *agent.Agent, nonce uint64, c config.Config) {
	t.Helper()
	does(t, "Message", a.Message(offer(1, nonce, c)))
	takes(t, a, ack(1, c.Version, nonce))
}

// serving: an agent, on a new disk, of which on(81) serves, as the generation 1, by the nonce 1.
func serving(t *testing.T, k int) (*disk.Disk, *agent.Agent) {
	t.Helper()
	d := fresh(t)
	a := talking(t, d, k)
	given(t, a, 1, on(81))
	does(t, "Ready", a.Ready(1))
	lives(t, "one serves", a, [2]uint64{1, isReady})
	return d, a
}

// handed delivers all that is on the pipe, till nothing is.
func handed(t *testing.T, a *agent.Agent) {
	t.Helper()
	for a.Crew().Pipe().Len() > 0 {
		does(t, "Deliver", a.Deliver(0))
	}
}

// lives holds an agent to who lives, and in what state.
func lives(t *testing.T, what string, a *agent.Agent, wanted ...[2]uint64) {
	t.Helper()
	var got [][2]uint64
	for _, g := range a.Crew().Gens() {
		got = append(got, [2]uint64{g.ID(), uint64(g.State())})
	}
	lists(t, what+": numbers and states", got, wanted...)
}

// last holds an agent to the config of the last generation.
func last(t *testing.T, what string, a *agent.Agent, wanted config.Config) {
	t.Helper()
	l := a.Crew().Gens()
	is(t, what, len(l) > 0 && config.Same(l[len(l)-1].Config(), wanted), true)
}

// slots holds an agent to the versions of what is persisted, the newest first.
func slots(t *testing.T, what string, a *agent.Agent, wanted ...uint64) {
	t.Helper()
	lists(t, what+": versions that are persisted", versions(a.Cache().Slots()), wanted...)
}

func versions(l []slot.Kept) []uint64 {
	var all []uint64
	for _, k := range l {
		all = append(all, k.Config.Version)
	}
	return all
}

// tells is all that an agent tells but its lists, of which each may be held against another one.
type tells struct {
	now     uint64
	err     api.Errno
	session session.Session
	epoch   uint64
	total   proxy.Counts
}

// same holds an agent to what another one, or this one at another time, told.
func same(t *testing.T, what string, got, wanted told) {
	t.Helper()
	is(t, what, got.tells, wanted.tells)
	lists(t, what+": Out", got.out, wanted.out...)
	lists(t, what+": Slots", got.slots, wanted.slots...)
	lists(t, what+": the pipe", got.pipe, wanted.pipe...)
	if !slices.EqualFunc(got.gens, wanted.gens, sameGen) {
		t.Errorf("%s: generations %v, wanted %v", what, got.gens, wanted.gens)
	}
	lists(t, what+": All", got.entries, wanted.entries...)
}

// told is all that an agent tells.
type told struct {
	tells
	out     []string
	slots   []uint64
	entries []ledger.Entry
	pipe    []pipe.Item
	gens    []proxy.Gen
}

func sameGen(a, b proxy.Gen) bool {
	return a.ID() == b.ID() && a.State() == b.State() && a.Print() == b.Print() && slices.Equal(a.Owns(), b.Owns()) &&
		slices.Equal(a.Conns(), b.Conns()) && a.Counts() == b.Counts()
}

func tell(a *agent.Agent) told {
	x := toldCrew(a.Crew())
	x.now, x.err, x.session, x.out = a.Now(), a.Err(), a.Session(), a.Out()
	x.slots, x.entries = versions(a.Cache().Slots()), a.Cache().All()
	return x
}

func toldCrew(c crew.Crew) told {
	return told{tells: tells{epoch: c.Epoch(), total: c.Total()}, pipe: c.Pipe().All(), gens: c.Gens()}
}
