package agent_test

import (
	"testing"

	"outrider/agent"
	"outrider/api"
	"outrider/config"
)

func TestSettlesWhereNotBusy(t *testing.T) { // the chapter's word: where the crew isn't Busy
	_, a := serving(t, 1)
	given(t, a, 2, on(82))
	given(t, a, 3, on(83))
	lives(t, "one starts", a, [2]uint64{1, isReady}, [2]uint64{2, starting})
	last(t, "one starts", a, on(82))
	does(t, "Ready", a.Ready(2))
	lives(t, "a handoff", a, [2]uint64{1, isReady}, [2]uint64{2, isReady})
	does(t, "Tick", a.Tick(1))
	does(t, "Deliver", a.Deliver(0))
	lives(t, "a handoff", a, [2]uint64{1, isReady}, [2]uint64{2, isReady})
	handed(t, a)
	lives(t, "its end", a, [2]uint64{1, draining}, [2]uint64{2, isReady}, [2]uint64{3, starting})
	last(t, "its end", a, on(83))
}

func TestSettlesBehindADeath(t *testing.T) { // and the newest that isn't held then is the best
	_, a := serving(t, 1)
	given(t, a, 2, on(82))
	given(t, a, 3, on(83))
	does(t, "Died", a.Died(2))
	lives(t, "the newer one starts", a, [2]uint64{1, isReady}, [2]uint64{3, starting})
	last(t, "the newer one starts", a, on(83))
	does(t, "Died", a.Died(3))
	lives(t, "both are held", a, [2]uint64{1, isReady})
	slots(t, "both are held", a, 1083, 1082)
	_, ok := a.Cache().Best()
	is(t, "is there a best", ok, false)
	does(t, "Died", a.Died(1))
	lives(t, "nobody is left", a)
}

func TestSettlesByPrints(t *testing.T) { // the best, whose print isn't that of who serves
	_, a := serving(t, 1)
	given(t, a, 2, versioned(on(81), 7))
	lives(t, "of another version alone", a, [2]uint64{1, isReady})
	last(t, "of another version alone", a, on(81))
	slots(t, "it is kept", a, 7, 1081)
	turned := on(81)
	turned.Listeners[0], turned.Listeners[1] = turned.Listeners[1], turned.Listeners[0]
	given(t, a, 3, turned)
	lives(t, "of another order alone", a, [2]uint64{1, isReady})
	given(t, a, 4, on(82))
	given(t, a, 5, on(81))
	lives(t, "one starts, though what serves is the best again", a, [2]uint64{1, isReady}, [2]uint64{2, starting})
	does(t, "Died", a.Died(2))
	lives(t, "what serves is the best", a, [2]uint64{1, isReady})
	given(t, a, 6, config.Config{Version: 1})
	lives(t, "the empty one", a, [2]uint64{1, isReady}, [2]uint64{3, starting})
}

func TestSettlesWhereFourLive(t *testing.T) { // where 4 live, nothing; once one is gone, it starts
	_, a := serving(t, 1)
	for id := uint64(1); id < 4; id++ {
		_, _, e := a.Accept(shared, id, "a.b", "/")
		does(t, "Accept", e)
		given(t, a, 1+id, on(81+uint16(id)))
		does(t, "Ready", a.Ready(1+id))
		handed(t, a)
	}
	four := [][2]uint64{{1, draining}, {2, draining}, {3, draining}, {4, isReady}}
	lives(t, "four", a, four...)
	given(t, a, 9, on(99))
	lives(t, "four", a, four...)
	is(t, "Busy", a.Crew().Busy(), false)
	does(t, "Tick", a.Tick(4))
	lives(t, "four", a, four...)
	does(t, "Died", a.Died(2))
	lives(t, "one is gone", a, [2]uint64{1, draining}, [2]uint64{3, draining}, [2]uint64{4, isReady}, [2]uint64{5, starting})
	last(t, "one is gone", a, on(99))
	does(t, "Tick", a.Tick(1))
	lives(t, "behind the deadlines", a, [2]uint64{4, isReady}, [2]uint64{5, starting})
}

// unsettled: an agent of which the best config was persisted by its cache, so that it hasn't settled since.
func unsettled(t *testing.T) *agent.Agent {
	t.Helper()
	_, a := serving(t, 1)
	_, _, e := a.Accept(shared, 7, "a.b", "/")
	does(t, "Accept", e)
	given(t, a, 2, on(82))
	does(t, "Ready", a.Ready(2))
	does(t, "Double", a.Double(0))
	does(t, "Double", a.Double(0))
	does(t, "Deliver", a.Deliver(0))
	does(t, "Deliver", a.Deliver(2))
	lives(t, "the end", a, [2]uint64{1, draining}, [2]uint64{2, isReady})
	is(t, "what is left over on the pipe", a.Crew().Pipe().Len(), 2)
	is(t, "an offer once more", a.Message(offer(1, 2, on(82))), api.ErrTwice)
	_, e = a.Cache().Persist(on(83))
	does(t, "Persist", e)
	return a
}

func TestSettlesBehindEachCall(t *testing.T) { // the chapter's word: each that isn't refused, but Accept, Close, Take
	for what, ask := range map[string]func(a *agent.Agent) api.Errno{
		"Message": func(a *agent.Agent) api.Errno { return a.Message(offer(1, 3, broken())) }, // a Nack goes out
		"Tick":    func(a *agent.Agent) api.Errno { return a.Tick(0) },
		"Lost":    (*agent.Agent).Lost,
		"Died":    func(a *agent.Agent) api.Errno { return a.Died(1) },
		"Deliver": func(a *agent.Agent) api.Errno { return a.Deliver(0) },
		"Double":  func(a *agent.Agent) api.Errno { return a.Double(0) },
		"Lose":    func(a *agent.Agent) api.Errno { return a.Lose(0) },
		"Clear":   func(a *agent.Agent) api.Errno { return a.Clear(api.Print{}) },
	} {
		a := unsettled(t)
		does(t, what, ask(a))
		is(t, what+": does it settle", a.Crew().Busy(), true)
		last(t, what, a, on(83))
	}
	for what, ask := range map[string]func(a *agent.Agent) api.Errno{
		"Accept": func(a *agent.Agent) api.Errno {
			_, _, e := a.Accept(shared, 8, "a.b", "/")
			return e
		},
		"Close": func(a *agent.Agent) api.Errno { return a.Close(7) },
		"Take": func(a *agent.Agent) api.Errno {
			if _, ok := a.Take(); !ok {
				return api.ErrNone
			}
			return api.OK
		},
	} {
		a := unsettled(t)
		does(t, what, ask(a))
		is(t, what+": does it settle", a.Crew().Busy(), false)
	}
}

func TestSettlesNotWhereRefused(t *testing.T) { // the chapter's word
	for what, x := range map[string]struct {
		ask    func(a *agent.Agent) api.Errno
		wanted api.Errno
	}{
		"no message":   {func(a *agent.Agent) api.Errno { return a.Message("x") }, api.ErrForm},
		"once more":    {func(a *agent.Agent) api.Errno { return a.Message(offer(1, 2, on(82))) }, api.ErrTwice},
		"elder nonces": {func(a *agent.Agent) api.Errno { return a.Message(offer(1, 1, on(82))) }, api.ErrStale},
		"Ready":        {func(a *agent.Agent) api.Errno { return a.Ready(2) }, api.ErrState},
		"Died":         {func(a *agent.Agent) api.Errno { return a.Died(99) }, api.ErrNone},
		"Deliver":      {func(a *agent.Agent) api.Errno { return a.Deliver(2) }, api.ErrNone},
		"Double":       {func(a *agent.Agent) api.Errno { return a.Double(2) }, api.ErrNone},
		"Lose":         {func(a *agent.Agent) api.Errno { return a.Lose(2) }, api.ErrNone},
	} {
		a := unsettled(t)
		is(t, what, x.ask(a), x.wanted)
		is(t, what+": does it settle", a.Crew().Busy(), false)
	}
}

func TestSettlesBehindReady(t *testing.T) { // the chapter's word: of a Ready that ends its handoff at once
	_, a := serving(t, 1)
	alone := on(82)
	alone.Listeners = alone.Listeners[1:]
	given(t, a, 2, alone)
	given(t, a, 3, on(83))
	does(t, "Ready", a.Ready(2))
	lives(t, "the next starts", a, [2]uint64{1, draining}, [2]uint64{2, isReady}, [2]uint64{3, starting})
	last(t, "the next starts", a, on(83))
}
