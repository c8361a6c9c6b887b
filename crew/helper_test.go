package crew_test

import (
	"encoding/binary"
	"hash/crc32"
	"math"
	"slices"
	"strconv"
	"testing"

	"outrider/api"
	"outrider/config"
	"outrider/crew"
	"outrider/pipe"
	"outrider/proxy"
	"outrider/spot"
)

const most = math.MaxUint64

const longIdle = 1000 // ticks

// Some places, rising.
var (
	any80  = spot.Place{Port: 80}
	any90  = spot.Place{Port: 90}
	own80  = spot.Place{IP: [4]byte{127, 0, 0, 1}, Port: 80}
	own81  = spot.Place{IP: [4]byte{127, 0, 0, 1}, Port: 81}
	own82  = spot.Place{IP: [4]byte{127, 0, 0, 1}, Port: 256 + 82}
	own443 = spot.Place{IP: [4]byte{200}, Port: 443}
)

func is[T comparable](t *testing.T, what string, got, wanted T) {
	t.Helper()
	if got != wanted {
		t.Errorf("%s: %v, wanted %v", what, got, wanted)
	}
}

// lists: have two lists the same elements?
func lists[T comparable](t *testing.T, what string, got []T, wanted ...T) {
	t.Helper()
	if !slices.Equal(got, wanted) {
		t.Errorf("%s: %v, wanted %v", what, got, wanted)
	}
}

// idles: a config that is fine, that listens there for the host a.b alone, and of which connections may be idle so long.
func idles(idle uint64, places ...spot.Place) config.Config {
	c := config.Config{Version: 4, Clusters: []config.Cluster{{Name: "web", Endpoints: []config.Endpoint{{Place: spot.Place{IP: [4]byte{10}, Port: 8080}, Weight: 1}}}}}
	for i, p := range places {
		c.Listeners = append(c.Listeners, config.Listener{
			Name: "l" + strconv.Itoa(i), Place: p, Routes: []config.Route{{Host: "a.b", Path: "/", Cluster: "web", Idle: idle}},
		})
	}
	return c
}

// on: one whose connections are there for ever.
func on(places ...spot.Place) config.Config { return idles(0, places...) }

// broken: one that isn't fine.
func broken() config.Config {
	c := on(any80)
	c.Clusters = nil
	return c
}

// framed: a message by hand.
func framed(kind byte, epoch uint64, p spot.Place) string {
	b := append([]byte("OF\x01"), kind)
	b = binary.BigEndian.AppendUint64(b, epoch)
	b = append(b, 0, 0, 0, 6, p.IP[0], p.IP[1], p.IP[2], p.IP[3], byte(p.Port>>8), byte(p.Port))
	return string(binary.LittleEndian.AppendUint32(b, crc32.Checksum(b, crc32.MakeTable(crc32.Castagnoli))))
}

func token(to, epoch uint64, p spot.Place) pipe.Item {
	return pipe.Item{To: to, Text: framed(16, epoch, p)}
}

func taken(to, epoch uint64, p spot.Place) pipe.Item {
	return pipe.Item{To: to, Text: framed(17, epoch, p)}
}

// Each of these does what it must with a crew, and answers the crew then.

func start(t *testing.T, c crew.Crew, x config.Config, wanted uint64) crew.Crew {
	t.Helper()
	c, id, e := c.Start(x)
	is(t, "Start", e, api.OK)
	is(t, "the number", id, wanted)
	return c
}

func ready(t *testing.T, c crew.Crew, id, now uint64) crew.Crew {
	t.Helper()
	c, e := c.Ready(id, now)
	is(t, "Ready", e, api.OK)
	return c
}

// next: one more starts, and is ready.
func next(t *testing.T, c crew.Crew, x config.Config, id, now uint64) crew.Crew {
	t.Helper()
	return ready(t, start(t, c, x, id), id, now)
}

func deliver(t *testing.T, c crew.Crew, i int, now uint64) crew.Crew {
	t.Helper()
	c, e := c.Deliver(i, now)
	is(t, "Deliver", e, api.OK)
	return c
}

func double(t *testing.T, c crew.Crew, i int) crew.Crew {
	t.Helper()
	c, e := c.Double(i)
	is(t, "Double", e, api.OK)
	return c
}

func lose(t *testing.T, c crew.Crew, i int) crew.Crew {
	t.Helper()
	c, e := c.Lose(i)
	is(t, "Lose", e, api.OK)
	return c
}

func die(t *testing.T, c crew.Crew, id uint64) crew.Crew {
	t.Helper()
	c, e := c.Died(id)
	is(t, "Died", e, api.OK)
	return c
}

// allDelivered: till nothing is on the pipe, the first ahead.
func allDelivered(t *testing.T, c crew.Crew, now uint64) crew.Crew {
	t.Helper()
	for c.Pipe().Len() > 0 {
		c = deliver(t, c, 0, now)
	}
	return c
}

// comes: a connection, which is accepted by who is wanted.
func comes(t *testing.T, c crew.Crew, p spot.Place, id, now, who uint64) crew.Crew {
	t.Helper()
	c, conn, got, e := c.Accept(p, id, "a.b", "/", now)
	is(t, "Accept", e, api.OK)
	is(t, "the connection's id", conn.ID, id)
	is(t, "who accepts", got, who)
	return c
}

// lives holds a crew to who lives, and in what state.
func lives(t *testing.T, what string, c crew.Crew, wanted ...[2]uint64) {
	t.Helper()
	var got [][2]uint64
	for _, g := range c.Gens() {
		got = append(got, [2]uint64{g.ID(), uint64(g.State())})
	}
	lists(t, what+": numbers and states", got, wanted...)
}

// owns holds a crew to what a generation owns.
func owns(t *testing.T, what string, c crew.Crew, id uint64, wanted ...spot.Place) {
	t.Helper()
	i := slices.IndexFunc(c.Gens(), func(g proxy.Gen) bool { return g.ID() == id })
	if i < 0 {
		t.Errorf("%s: %d doesn't live", what, id)
		return
	}
	lists(t, what+": what it owns", c.Gens()[i].Owns(), wanted...)
	for _, p := range wanted {
		who, owned := c.Owner(p)
		is(t, what+": the Owner", who, id)
		is(t, what+": is it owned", owned, true)
	}
}

// nobodys holds a crew to places that nobody owns.
func nobodys(t *testing.T, what string, c crew.Crew, places ...spot.Place) {
	t.Helper()
	for _, p := range places {
		who, owned := c.Owner(p)
		is(t, what+": nobody's", who, 0)
		is(t, what+": is it owned", owned, false)
	}
}

// serves holds a crew to who serves; 0 is nobody.
func serves(t *testing.T, what string, c crew.Crew, id uint64) {
	t.Helper()
	g, ok := c.Serving()
	is(t, what+": who serves", g.ID(), id)
	is(t, what+": does anybody", ok, id > 0)
}

// tells is all that a crew tells, of which each part may be held against another one.
type tells struct {
	gens    []gen
	pipe    []pipe.Item
	epoch   uint64
	total   proxy.Counts
	busy    bool
	serving uint64
}

// gen is all that a generation tells.
type gen struct {
	id     uint64
	state  int
	print  api.Print
	owns   []spot.Place
	conns  []proxy.Conn
	counts proxy.Counts
}

func (a gen) same(b gen) bool {
	return a.id == b.id && a.state == b.state && a.print == b.print && slices.Equal(a.owns, b.owns) && slices.Equal(a.conns, b.conns) && a.counts == b.counts
}

// told: what a crew tells now.
func told(c crew.Crew) tells {
	s := tells{pipe: c.Pipe().All(), epoch: c.Epoch(), total: c.Total(), busy: c.Busy()}
	for _, g := range c.Gens() {
		s.gens = append(s.gens, gen{g.ID(), g.State(), g.Print(), g.Owns(), g.Conns(), g.Counts()})
	}
	if g, ok := c.Serving(); ok {
		s.serving = g.ID()
	}
	return s
}

// same holds what is told to what was wanted.
func same(t *testing.T, what string, got, wanted tells) {
	t.Helper()
	if !slices.EqualFunc(got.gens, wanted.gens, gen.same) {
		t.Errorf("%s: generations %v, wanted %v", what, got.gens, wanted.gens)
	}
	lists(t, what+": the pipe", got.pipe, wanted.pipe...)
	is(t, what+": Epoch", got.epoch, wanted.epoch)
	is(t, what+": Total", got.total, wanted.total)
	is(t, what+": Busy", got.busy, wanted.busy)
	is(t, what+": who serves", got.serving, wanted.serving)
}
