package crew_test

import (
	"testing"

	"outrider/crew"
	"outrider/pipe"
	"outrider/proxy"
	"outrider/spot"
)

// handing: 1 gives own81 and own82 to 2, lets any80 go, and own443 is the child's alone.
func handing(t *testing.T) crew.Crew {
	t.Helper()
	c := next(t, crew.New(5), on(own82, any80, own81), 1, 0)
	return next(t, c, on(own443, own82, own81), 2, 3)
}

func TestHandoffBegins(t *testing.T) { // P27.1, and the chapter's word of it
	c := handing(t)
	lives(t, "begun", c, [2]uint64{1, isReady}, [2]uint64{2, isReady})
	serves(t, "begun", c, 2)
	owns(t, "the parent", c, 1)
	owns(t, "the child", c, 2, own443)
	nobodys(t, "what is given, or gone", c, any80, own81, own82)
	lists(t, "the pipe", c.Pipe().All(), token(2, 1, own81), token(2, 1, own82))
	is(t, "Epoch", c.Epoch(), 1)
	is(t, "Busy", c.Busy(), true)
	comes(t, c, own443, 7, 3, 2)
}

func TestHandoffGoesOn(t *testing.T) { // P27.2; the document's eighth example: one by one, each once
	c := handing(t)
	c = deliver(t, c, 0, 4)
	owns(t, "the first came", c, 2, own81, own443)
	nobodys(t, "the second didn't", c, own82)
	lists(t, "the pipe", c.Pipe().All(), token(2, 1, own82), taken(1, 1, own81))
	comes(t, c, own81, 7, 4, 2)
	c = deliver(t, c, 1, 5)
	lists(t, "the pipe", c.Pipe().All(), token(2, 1, own82))
	is(t, "Busy", c.Busy(), true)
	c = c.Tick(6)
	lists(t, "what isn't taken is sent again", c.Pipe().All(), token(2, 1, own82), token(2, 1, own82))
	c = lose(t, lose(t, c, 0), 0)
	c = c.Tick(6)
	lists(t, "what was lost, too", c.Pipe().All(), token(2, 1, own82))
	c = deliver(t, c, 0, 6)
	owns(t, "the second came", c, 2, own81, own82, own443)
	lives(t, "it isn't known to be taken", c, [2]uint64{1, isReady}, [2]uint64{2, isReady})
	c = lose(t, c, 0)
	c = c.Tick(7)
	lists(t, "what was answered was lost", c.Pipe().All(), token(2, 1, own82))
	c = deliver(t, c, 0, 8)
	owns(t, "it came again", c, 2, own81, own82, own443)
	lists(t, "it is answered again", c.Pipe().All(), taken(1, 1, own82))
	c = deliver(t, c, 0, 9)
	lives(t, "the end", c, [2]uint64{1, draining}, [2]uint64{2, isReady})
	owns(t, "the end", c, 1)
	owns(t, "the end", c, 2, own81, own82, own443)
	nobodys(t, "the end", c, any80)
	is(t, "Busy", c.Busy(), false)
	is(t, "the pipe", c.Pipe().Len(), 0)
	is(t, "Epoch", c.Epoch(), 1)
	same(t, "Tick of who has no connections", told(c.Tick(0)), told(die(t, c, 1)))
}

func TestHandoffTurnedAbout(t *testing.T) { // P27.2: whichever comes first, however often
	c := handing(t)
	c = double(t, double(t, c, 1), 0) // 81, 82, 82, 81
	c = deliver(t, c, 2, 0)
	owns(t, "the second comes first", c, 2, own82, own443)
	c = deliver(t, c, 1, 0)
	owns(t, "it comes twice", c, 2, own82, own443)
	lists(t, "the pipe", c.Pipe().All(), token(2, 1, own81), token(2, 1, own81), taken(1, 1, own82), taken(1, 1, own82))
	c = deliver(t, deliver(t, c, 2, 0), 2, 0)
	is(t, "what was answered twice is taken once", c.Busy(), true)
	c = deliver(t, c, 1, 0)
	c = deliver(t, c, 1, 20)
	lives(t, "the end", c, [2]uint64{1, draining}, [2]uint64{2, isReady})
	owns(t, "the end", c, 2, own81, own82, own443)
	lists(t, "what is left over", c.Pipe().All(), token(2, 1, own81))
	was := told(c)
	was.pipe = nil
	same(t, "it counts for nothing", told(deliver(t, c, 0, 21)), was)
}

func TestHandoffOfNothing(t *testing.T) { // P27.1: it ends, where nothing is given
	for _, x := range []struct{ parent, child []spot.Place }{
		{nil, nil}, {nil, []spot.Place{any80}}, {[]spot.Place{any80}, nil},
		{[]spot.Place{any80}, []spot.Place{own80}}, {[]spot.Place{own80}, []spot.Place{any80}}, // places that meet aren't one
		{[]spot.Place{any80, own443}, []spot.Place{any90, own81}},
	} {
		c := next(t, next(t, crew.New(5), on(x.parent...), 1, 0), on(x.child...), 2, 3)
		lives(t, "the end", c, [2]uint64{1, draining}, [2]uint64{2, isReady})
		owns(t, "the parent", c, 1)
		owns(t, "the child", c, 2, x.child...)
		nobodys(t, "the parent's", c, x.parent...)
		is(t, "Busy", c.Busy(), false)
		is(t, "Epoch", c.Epoch(), 1)
		is(t, "the pipe", c.Pipe().Len(), 0)
	}
}

func TestHandoffOfAll(t *testing.T) { // P27.1: to one of the same config
	all := []spot.Place{any80, any90, own81, own82, own443}
	c := next(t, next(t, crew.New(5), on(all...), 1, 0), on(all...), 2, 3)
	nobodys(t, "begun", c, all...)
	var wanted []pipe.Item
	for _, p := range all {
		wanted = append(wanted, token(2, 1, p))
	}
	lists(t, "the pipe", c.Pipe().All(), wanted...)
	owns(t, "the end", allDelivered(t, c, 3), 2, all...)
}

func TestEpochs(t *testing.T) { // the chapter's word: they begin with 1, and rise by one
	c := next(t, crew.New(0), on(any80), 1, 0)
	for id := uint64(2); id < 200; id++ {
		c = start(t, c, on(any80), id)
		is(t, "Epoch, where one starts", c.Epoch(), id-2)
		c = ready(t, c, id, 0)
		is(t, "Epoch", c.Epoch(), id-1)
		lists(t, "the pipe", c.Pipe().All(), token(id, id-1, any80))
		c = allDelivered(t, c, 0).Tick(0)
		is(t, "Epoch behind its end", c.Epoch(), id-1)
		owns(t, "the end", c, id, any80)
	}
}

func TestEpochsOfOthers(t *testing.T) { // P27.1: of what is broken off, and of one that ends at once; not where nobody served
	c := next(t, next(t, crew.New(0), on(any80), 1, 0), on(any80), 2, 0)
	c = die(t, c, 2)
	is(t, "broken off", c.Epoch(), 1)
	c = next(t, c, on(own81), 3, 0)
	is(t, "ended at once", c.Epoch(), 2)
	c = next(t, die(t, c, 3), on(any80), 4, 0)
	is(t, "nobody served", c.Epoch(), 2)
	c = next(t, c, on(any80), 5, 0)
	is(t, "the next", c.Epoch(), 3)
}

// steps: a crew at each turn of handing's handoff.
func steps(t *testing.T) map[string]crew.Crew {
	t.Helper()
	begun := handing(t)
	first := deliver(t, begun, 0, 4)
	answered := deliver(t, first, 1, 4)
	both := deliver(t, answered, 0, 4)
	return map[string]crew.Crew{
		"begun": begun, "first taken": first, "first answered": answered, "both taken": both,
		"doubled": double(t, both, 0), "all lost": lose(t, both, 0), "sent again": both.Tick(4),
	}
}

func TestChildDies(t *testing.T) { // P27.1; the document's ninth example: the parent has all of its listeners again
	for what, c := range steps(t) {
		c = comes(t, c, own443, 9, 4, 2)
		c = die(t, c, 2)
		lives(t, what, c, [2]uint64{1, isReady})
		serves(t, what, c, 1)
		owns(t, what, c, 1, any80, own81, own82)
		nobodys(t, what, c, own443)
		is(t, what+": the pipe", c.Pipe().Len(), 0)
		is(t, what+": Busy", c.Busy(), false)
		is(t, what+": Total", c.Total(), proxy.Counts{Accepted: 1, Closed: 1})
		lives(t, what+", later", c.Tick(most), [2]uint64{1, isReady})
		c = next(t, c, on(own81, own443), 3, 5)
		is(t, what+": Epoch of the next", c.Epoch(), 2)
		lists(t, what+": the pipe of the next", c.Pipe().All(), token(3, 2, own81))
		owns(t, what+", the next", allDelivered(t, c, 5), 3, own81, own443)
	}
}

func TestParentDies(t *testing.T) { // P27.1: the child owns all of its listeners' places
	for what, c := range steps(t) {
		c = die(t, c, 1)
		lives(t, what, c, [2]uint64{2, isReady})
		serves(t, what, c, 2)
		owns(t, what, c, 2, own81, own82, own443)
		nobodys(t, what, c, any80)
		is(t, what+": the pipe", c.Pipe().Len(), 0)
		is(t, what+": Busy", c.Busy(), false)
		c = next(t, c, on(own82), 3, 5)
		owns(t, what+", the next", allDelivered(t, c, 5), 3, own82)
	}
}

func TestOthersDie(t *testing.T) { // P27.1: who isn't in the handoff breaks nothing off
	c := comes(t, next(t, crew.New(9), on(any80), 1, 0), any80, 1, 0, 1)
	c = allDelivered(t, next(t, c, on(any80, own81), 2, 0), 0)
	c = next(t, c, on(any80, own81), 3, 0)
	was := told(c)
	c = die(t, c, 1)
	lives(t, "the elder one is gone", c, [2]uint64{2, isReady}, [2]uint64{3, isReady})
	lists(t, "the pipe", c.Pipe().All(), was.pipe...)
	is(t, "Busy", c.Busy(), true)
	nobodys(t, "what is given", c, any80, own81)
	owns(t, "the end", allDelivered(t, c, 0), 3, any80, own81)
}

func TestElderEpochs(t *testing.T) { // P27.2: what is left over of an elder handoff counts for nothing
	c := next(t, next(t, crew.New(9), on(any80), 1, 0), on(any80), 2, 0)
	c = deliver(t, double(t, c, 0), 0, 0)
	c = deliver(t, double(t, c, 1), 1, 0) // a token for 2, and a taken for 1, are left over
	lists(t, "left over", c.Pipe().All(), token(2, 1, any80), taken(1, 1, any80))
	c = next(t, c, on(any80), 3, 0) // of the parent 2
	is(t, "Epoch", c.Epoch(), 2)
	was := told(c)
	was.pipe = []pipe.Item{token(3, 2, any80)}
	c = deliver(t, deliver(t, c, 0, 0), 0, 0)
	same(t, "both came", told(c), was)
	owns(t, "the end", allDelivered(t, c, 0), 3, any80)
}

func TestTakenOfThisEpochAlone(t *testing.T) { // P27.2: a giver isn't Done by what answered an elder one
	c := next(t, next(t, crew.New(9), on(any80), 1, 0), on(any80), 2, 0)
	c = double(t, deliver(t, c, 0, 0), 0) // two of Taken for 1
	c = deliver(t, c, 0, 0)
	lives(t, "the end", c, [2]uint64{1, draining}, [2]uint64{2, isReady})
	c = next(t, die(t, c, 2), on(any80), 3, 0) // 1 drains, 3 serves
	c = next(t, c, on(any80), 4, 0)            // from 3
	lists(t, "the pipe", c.Pipe().All(), taken(1, 1, any80), token(4, 2, any80))
	c = deliver(t, c, 0, 0)
	is(t, "Busy", c.Busy(), true)
	owns(t, "the end", allDelivered(t, c, 0), 4, any80)
}

func TestCrewsStay(t *testing.T) { // the chapter's word: a crew stays as it was
	crews := steps(t)
	crews["an empty one"] = crew.New(5)
	crews["one starts"] = start(t, crew.New(5), on(any80), 1)
	crews["the end"] = allDelivered(t, handing(t), 4)
	crews["one drains, one starts"] = start(t, comes(t, crews["the end"], own443, 6, 4, 2), on(any80), 3)
	for what, c := range crews {
		was := told(c)
		alone := c.Tick(most)
		c.Start(on(own81))
		for id := range uint64(4) {
			c.Ready(id, 1)
			c.Died(id)
			c.Close(id + 4)
			for _, p := range []spot.Place{any80, own81, own443} {
				c.Accept(p, id, "a.b", "/", 1)
				c.Accept(p, id, "q", "/", 1)
			}
		}
		for i := range c.Pipe().Len() {
			c.Deliver(i, 1)
			c.Double(i)
			c.Lose(i)
		}
		c.Tick(0)
		same(t, what, told(c), was)
		same(t, what+", later", told(c.Tick(most)), told(alone))
	}
}
