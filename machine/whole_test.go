package machine_test

import (
	"testing"

	"outrider/api"
	"outrider/machine"
	"outrider/session"
	"outrider/spot"
)

// The document's examples of the whole, from the sixth on.

func TestWholeNack(t *testing.T) { // P30.2; the sixth: a config that can't be read, a Nack, with its code, and nothing is turned
	m := serving(t, 1)
	was := tell(m.Agent(), m.Disk())
	does(t, m, text(session.Message(session.Offered, 1, "x", 6, 2)))
	takes(t, m, nack(1, 1081, 2, api.ErrKind))
	was.session = m.Agent().Session()
	same(t, "a Nack", tell(m.Agent(), m.Disk()), was)
}

func TestWholeTwice(t *testing.T) { // P30.2; the seventh: the same Ack twice
	m := serving(t, 1)
	does(t, m, offer(2, on(82)))
	codes(t, "once more", m, offer(2, on(82)), api.ErrTwice)
	takes(t, m, ack(1, 1082, 2), ack(1, 1082, 2))
}

// three: a config with three places, which has another print for another idle time.
func three(idle uint64) (x []spot.Place, e machine.Event) {
	c := on(81)
	for i := range 3 {
		l := c.Listeners[0]
		l.Name, l.Place = "l"+string(rune('0'+i)), place(uint16(90+i))
		x = append(x, l.Place)
		c.Listeners = append(c.Listeners, l)
	}
	c.Listeners = c.Listeners[2:]
	c.Listeners[0].Routes = append(c.Listeners[0].Routes[:0:0], c.Listeners[0].Routes...)
	c.Listeners[0].Routes[0].Idle = idle
	c.Version = idle
	return x, offer(idle, c)
}

func TestWholeHandoff(t *testing.T) { // P30.2; the eighth: its parent's listeners become its own, one by one, each once
	m := fresh(t, 1)
	places, first := three(1)
	_, second := three(2)
	does(t, m, of(tick, 0), first, of(ready, 1), second, of(ready, 2))
	owners := func() (l []uint64) {
		for _, p := range places {
			n, _ := m.Agent().Crew().Owner(p)
			l = append(l, n)
		}
		return l
	}
	lists(t, "its beginning", owners(), 0, 0, 0)
	does(t, m, of(double, 0), of(deliver, 0))
	lists(t, "one", owners(), 2, 0, 0)
	does(t, m, of(deliver, 2))
	lists(t, "the same once more", owners(), 2, 0, 0)
	does(t, m, of(deliver, 1))
	lists(t, "the last", owners(), 2, 0, 2)
	does(t, m, of(lose, 0))
	handed(t, m)
	lists(t, "one is lost", owners(), 2, 0, 2)
	is(t, "Busy", m.Status().Busy, true)
	does(t, m, of(tick, 1))
	handed(t, m)
	lists(t, "all", owners(), 2, 2, 2)
	is(t, "Busy", m.Status().Busy, false)
	does(t, m, of(tick, 5))
	is(t, "the parent is gone", m.Status().Gens, 1)
}

func TestWholeDeathOfAChild(t *testing.T) { // P30.2; the ninth: the parent has all of its listeners again
	m := fresh(t, 1)
	places, first := three(1)
	_, second := three(2)
	does(t, m, of(tick, 0), first, of(ready, 1), second, of(ready, 2), of(deliver, 0), of(died, 2))
	for _, p := range places {
		n, _ := m.Agent().Crew().Owner(p)
		is(t, "who owns it", n, 1)
	}
	is(t, "a connection", m.Do(comes(7, places[0].Text(), "a.b", "/")).Who, 1)
	is(t, "it starts anew", last(m), 2)
}

func TestWholeDeaths(t *testing.T) { // P30.2, P4; the tenth: the config ahead of it is served again
	m := serving(t, 3)
	does(t, m, offer(2, on(82)), of(died, 2))
	does(t, m, machine.Crash(forever, nil, nil), of(died, 1))
	is(t, "two deaths", last(m), 1082)
	does(t, m, of(died, 2))
	is(t, "three deaths", last(m), 1081)
	does(t, m, of(ready, 3))
	is(t, "it serves", m.Status().Version, 1081)
	does(t, m, machine.Crash(forever, nil, nil))
	is(t, "it is held yet", last(m), 1081)
	does(t, m, cleared(on(82)), of(ready, 1))
	is(t, "it is cleared", last(m), 1082)
}
