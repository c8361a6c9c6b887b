package status_test

import (
	"math/rand"
	"testing"

	"outrider/agent"
	"outrider/api"
	"outrider/proxy"
	"outrider/session"
	"outrider/status"
)

func TestOfNil(t *testing.T) { // P29.1; the example: of nil lost 1
	s := status.Of(nil)
	is(t, "Of nil", s, status.Status{Lost: api.ErrNil})
	is(t, "its last line", s.Lines()[15], "lost 1")
	is(t, "Healthy", status.Healthy(s), false)
	reads(t, s)
}

func TestOf(t *testing.T) { // P29.1: each of its fields, as they come to be
	_, a := fresh(t, 1)
	wanted := status.Status{}
	tells := func(what string) {
		t.Helper()
		is(t, what, status.Of(a), wanted)
		is(t, what+": once more", status.Of(a), wanted)
		reads(t, wanted)
	}
	tells("of an empty disk")
	does(t, "Tick", a.Tick(3))
	wanted.Now, wanted.Open, wanted.Epoch = 3, true, 1
	tells("a Tick")
	does(t, "Message", a.Message(offer(1, 1, on(81))))
	wanted.Busy, wanted.Gens, wanted.Slots = true, 1, 1
	tells("the first starts")
	does(t, "Ready", a.Ready(1))
	wanted.Busy, wanted.Serving, wanted.Version, wanted.Gen, wanted.Print = false, true, 1081, 1, printOf(on(81))
	tells("the first serves")
	for id := range uint64(3) {
		_, _, e := a.Accept(shared, id, "a.b", "/")
		does(t, "Accept", e)
	}
	_, _, e := a.Accept(shared, 9, "q", "/")
	is(t, "Accept without a route", e, api.ErrNone)
	does(t, "Close", a.Close(2))
	wanted.Conns, wanted.Counts = 2, proxy.Counts{Accepted: 3, Closed: 1, Refused: 1}
	tells("connections")
	does(t, "Message", a.Message(offer(1, 2, on(82))))
	wanted.Busy, wanted.Gens, wanted.Slots = true, 2, 2
	tells("another one starts")
	does(t, "Died", a.Died(2))
	wanted.Busy, wanted.Gens, wanted.Held = false, 1, 1
	tells("it is held")
	does(t, "Message", a.Message(offer(1, 3, on(83))))
	wanted.Busy, wanted.Gens = true, 2
	tells("one more starts")
	does(t, "Ready", a.Ready(3))
	wanted.Version, wanted.Gen, wanted.Print = 1083, 3, printOf(on(83))
	tells("a handoff")
	is(t, "the crew's epoch isn't the session's", a.Crew().Epoch(), 1)
	handed(t, a)
	wanted.Busy = false
	tells("the handoff's end")
	_, _, e = a.Accept(shared, 7, "a.b", "/")
	does(t, "Accept", e)
	wanted.Conns, wanted.Counts.Accepted = 3, 4
	tells("connections of two generations")
	does(t, "Lost", a.Lost())
	wanted.Open = false
	tells("the line is lost")
	does(t, "Tick", a.Tick(5))
	wanted.Now, wanted.Open, wanted.Epoch = 8, true, 2
	wanted.Gens, wanted.Conns, wanted.Counts.Closed = 1, 1, 3
	tells("the parent's deadline")
	does(t, "Clear", a.Clear(printOf(on(82))))
	wanted.Held = 0
	tells("nothing is held")
}

func TestOfDeathsInARow(t *testing.T) { // P29.1: prints that are held, not those that died
	_, a := fresh(t, 2)
	does(t, "Tick", a.Tick(0))
	does(t, "Message", a.Message(offer(1, 1, on(81))))
	does(t, "Died", a.Died(1))
	is(t, "entries", len(a.Cache().All()), 1)
	is(t, "held", status.Of(a).Held, 0)
	does(t, "Died", a.Died(2))
	is(t, "entries", len(a.Cache().All()), 1)
	is(t, "held", status.Of(a).Held, 1)
	is(t, "all of it", status.Of(a), status.Status{Open: true, Epoch: 1, Held: 1, Slots: 1})
}

func TestOfVersion(t *testing.T) { // P29.1: that of who serves, not of what is kept, or of what was offered
	_, a := fresh(t, 1)
	does(t, "Tick", a.Tick(0))
	does(t, "Message", a.Message(offer(1, 1, on(81))))
	does(t, "Ready", a.Ready(1))
	x := on(81)
	x.Version = 9 // of the same print, so that nothing starts
	does(t, "Message", a.Message(offer(1, 2, x)))
	is(t, "the session's Version", a.Session().Version, 9)
	s := status.Of(a)
	is(t, "Version", s.Version, 1081)
	is(t, "Busy", s.Busy, false)
	is(t, "Slots", s.Slots, 2)
}

func TestOfOneThatIsLost(t *testing.T) { // P29.1: only Lost
	d, a := fresh(t, 1)
	does(t, "Tick", a.Tick(3))
	does(t, "Message", a.Message(offer(1, 1, on(81))))
	does(t, "Ready", a.Ready(1))
	is(t, "Healthy", status.Healthy(status.Of(a)), true)
	d.Fuse(0)
	is(t, "a fuse that nothing asks", status.Of(a).Serving, true)
	is(t, "Message", a.Message(offer(1, 2, on(82))), api.ErrPower)
	is(t, "Of one that is lost", status.Of(a), status.Status{Lost: api.ErrPower})
	is(t, "Healthy", status.Healthy(status.Of(a)), false)
	d.Crash(nil, nil)
	is(t, "with the power there again", status.Of(a), status.Status{Lost: api.ErrPower})
	reads(t, status.Of(a))
}

func TestHealthy(t *testing.T) { // P29.1
	for s, wanted := range map[status.Status]bool{
		{}:                                   false,
		{Serving: true}:                      true,
		{Serving: true, Lost: api.ErrPower}:  false,
		{Serving: true, Lost: -1}:            false,
		{Lost: api.ErrNil}:                   false,
		{Busy: true, Open: true, Gens: 1}:    false,
		{Serving: true, Busy: true, Held: 9}: true,
		{Gen: 1, Version: 1, Epoch: 1}:       false,
	} {
		is(t, "Healthy", status.Healthy(s), wanted)
	}
}

// befalls: something by chance.
func befalls(r *rand.Rand, a *agent.Agent) {
	id := uint64(r.Intn(9))
	if l := a.Crew().Gens(); len(l) > 0 && r.Intn(8) > 0 {
		id = l[r.Intn(len(l))].ID()
	}
	c := on(uint16(81 + r.Intn(4)))
	switch r.Intn(12) {
	case 0, 1:
		c.Version = r.Uint64() >> r.Intn(64)
		a.Message(offer(a.Session().Epoch, a.Session().Nonce+1, c))
	case 2:
		a.Message(session.Message(session.Offered, a.Session().Epoch, "x", 1, a.Session().Nonce+1))
	case 3:
		a.Tick(r.Uint64() >> (50 + r.Intn(14)))
	case 4, 5:
		a.Ready(id)
	case 6:
		a.Died(id)
	case 7, 8:
		a.Deliver(0)
	case 9:
		a.Lost()
	case 10:
		a.Clear(printOf(c))
	case 11:
		a.Accept(shared, r.Uint64(), "a.b", "/")
		a.Accept(shared, r.Uint64(), "q", "/")
	}
}

func TestByChance(t *testing.T) { // P29.1 and P29.3: what an agent tells is read as it was, whatever befell it
	served, draining, held, lost := 0, 0, 0, 0
	for seed := range int64(100) {
		r := rand.New(rand.NewSource(seed))
		d, a := fresh(t, 1+r.Intn(3))
		if r.Intn(2) == 0 {
			d.Fuse(r.Intn(99))
		}
		for range 100 {
			befalls(r, a)
			s := status.Of(a)
			reads(t, s)
			if a.Err() != api.OK {
				is(t, "Of one that is lost", s, status.Status{Lost: api.ErrPower})
				lost++
				continue
			}
			g, serves := a.Crew().Serving()
			is(t, "Serving", s.Serving, serves)
			is(t, "who", s.Gen, g.ID())
			is(t, "its print", s.Print, g.Print())
			is(t, "its version", s.Version, g.Config().Version)
			is(t, "Conns", uint64(s.Conns), s.Counts.Accepted-s.Counts.Closed)
			is(t, "Healthy", status.Healthy(s), serves)
			served, draining, held = served+tally(serves), draining+tally(s.Gens > 1), held+tally(s.Held > 0)
		}
		if t.Failed() {
			t.Fatalf("seed %d", seed)
		}
	}
	if served < 200 || draining < 200 || held < 200 || lost < 200 {
		t.Errorf("only %d served, %d with two generations, %d held, %d lost", served, draining, held, lost)
	}
}

func tally(is bool) int {
	if is {
		return 1
	}
	return 0
}
