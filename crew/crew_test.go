package crew_test

import (
	"math"
	"slices"
	"testing"

	"outrider/api"
	"outrider/config"
	"outrider/crew"
	"outrider/pipe"
	"outrider/proxy"
	"outrider/spot"
)

const (
	starting = proxy.Starting
	isReady  = proxy.Ready
	draining = proxy.Draining
)

// drainers: four live, of which three drain, a connection each: 1, 2 and 3.
func drainers(t *testing.T, drain uint64) crew.Crew {
	t.Helper()
	c := crew.New(drain)
	for id := uint64(1); id < 4; id++ {
		c = comes(t, allDelivered(t, next(t, c, on(any80, own81), id, 0), 0), any80, id, 0, id)
	}
	c = allDelivered(t, next(t, c, on(any80, own81), 4, 0), 0)
	lives(t, "four", c, [2]uint64{1, draining}, [2]uint64{2, draining}, [2]uint64{3, draining}, [2]uint64{4, isReady})
	return c
}

func TestNew(t *testing.T) { // P27.1 to P27.3: nobody lives
	for _, c := range []crew.Crew{crew.New(0), crew.New(5), crew.New(most), {}} {
		same(t, "a new one", told(c), tells{})
		serves(t, "a new one", c, 0)
		nobodys(t, "a new one", c, any80, spot.Place{})
		for _, id := range []uint64{0, 1, 2, most} {
			x, e := c.Ready(id, 5)
			is(t, "Ready", e, api.ErrNone)
			same(t, "Ready", told(x), tells{})
			x, e = c.Died(id)
			is(t, "Died", e, api.ErrNone)
			same(t, "Died", told(x), tells{})
			x, e = c.Close(id)
			is(t, "Close", e, api.ErrNone)
			same(t, "Close", told(x), tells{})
			x, conn, who, e := c.Accept(any80, id, "a.b", "/", 5)
			is(t, "Accept", e, api.ErrOwner)
			is(t, "beside ErrOwner", conn == proxy.Conn{} && who == 0, true)
			same(t, "Accept", told(x), tells{})
			same(t, "Tick", told(c.Tick(id)), tells{})
		}
		nothingComes(t, c)
		owns(t, "the first of it", next(t, c, on(any80), 1, 0), 1, any80)
	}
}

// nothingComes holds a crew to what is told where there is nothing on the pipe.
func nothingComes(t *testing.T, c crew.Crew) {
	t.Helper()
	was := told(c)
	for _, i := range []int{c.Pipe().Len(), -1, c.Pipe().Len() + 1, 64, math.MaxInt, math.MinInt} {
		x, e := c.Deliver(i, 5)
		is(t, "Deliver", e, api.ErrNone)
		same(t, "Deliver", told(x), was)
		x, e = c.Double(i)
		is(t, "Double", e, api.ErrNone)
		same(t, "Double", told(x), was)
		x, e = c.Lose(i)
		is(t, "Lose", e, api.ErrNone)
		same(t, "Lose", told(x), was)
	}
}

func TestStart(t *testing.T) { // P27.1, and the chapter's word of numbers
	c := crew.New(5)
	for id := uint64(1); id < 300; id++ {
		c = start(t, c, on(any80), id)
		lives(t, "one", c, [2]uint64{id, starting})
		is(t, "Busy", c.Busy(), true)
		serves(t, "one that starts", c, 0)
		owns(t, "one that starts", c, id)
		nobodys(t, "one that starts", c, any80)
		g := c.Gens()[0]
		is(t, "its config", config.Same(g.Config(), on(any80)), true)
		_, _, _, e := c.Accept(any80, 1, "a.b", "/", 0)
		is(t, "Accept", e, api.ErrOwner)
		c = die(t, c, id)
		same(t, "it is gone", told(c), tells{})
	}
}

func TestStartErrors(t *testing.T) { // P27.1: which is told ahead of which
	refuses := func(what string, c crew.Crew, x config.Config, wanted api.Errno) {
		t.Helper()
		was := told(c)
		then, id, e := c.Start(x)
		is(t, what, e, wanted)
		is(t, what+": the number", id, 0)
		same(t, what, told(then), was)
	}
	served := next(t, crew.New(5), on(any80), 1, 0)
	handing := next(t, served, on(any80), 2, 0)
	full := drainers(t, 9)
	fullAndBusy := start(t, die(t, full, 2), on(any80), 5)
	is(t, "is a full one busy", full.Busy(), false)
	is(t, "how many live", len(fullAndBusy.Gens()), 4)
	for what, c := range map[string]crew.Crew{"an empty one": crew.New(0), "served": served, "handing": handing, "full": full, "full and busy": fullAndBusy} {
		refuses("not fine: "+what, c, broken(), api.ErrForm)
		many := on(any80)
		many.Clusters = make([]config.Cluster, 9)
		refuses("too many: "+what, c, many, api.ErrForm)
	}
	refuses("one starts", start(t, crew.New(5), on(any80), 1), on(any80), api.ErrState)
	refuses("one starts beside one that serves", start(t, served, on(any80), 2), on(any80), api.ErrState)
	refuses("a handoff", handing, on(any80), api.ErrState)
	refuses("full and busy", fullAndBusy, on(any80), api.ErrState)
	refuses("full", full, on(any80), api.ErrFull)
	start(t, die(t, full, 1), on(any80), 5) // what was refused took no number
	start(t, die(t, full, 4), on(any80), 5) // and no number comes again
}

func TestReadyFirst(t *testing.T) { // P27.1, the example: Start, Ready: it owns all
	for _, places := range [][]spot.Place{{}, {any80}, {any80, any90, own81, own82, own443}} {
		turned := slices.Clone(places)
		slices.Reverse(turned)
		c := next(t, crew.New(5), on(turned...), 1, 7)
		lives(t, "the first", c, [2]uint64{1, isReady})
		serves(t, "the first", c, 1)
		owns(t, "the first", c, 1, places...)
		is(t, "Busy", c.Busy(), false)
		is(t, "Epoch", c.Epoch(), 0)
		is(t, "the pipe", c.Pipe().Len(), 0)
	}
}

func TestReadyWhereNobodyServes(t *testing.T) { // P27.1: it owns all, though others live
	c := comes(t, next(t, crew.New(9), on(any80), 1, 0), any80, 1, 0, 1)
	c = allDelivered(t, next(t, c, on(any80), 2, 0), 0)
	c = start(t, c, on(any80, own81), 3)
	c = die(t, c, 2)
	serves(t, "one drains, one starts", c, 0)
	nobodys(t, "one drains, one starts", c, any80, own81)
	c = ready(t, c, 3, 5)
	lives(t, "ready", c, [2]uint64{1, draining}, [2]uint64{3, isReady})
	owns(t, "ready", c, 3, any80, own81)
	owns(t, "one that drains", c, 1)
	is(t, "Epoch", c.Epoch(), 1)
	is(t, "Busy", c.Busy(), false)
	is(t, "the pipe", c.Pipe().Len(), 0)
}

func TestReadyErrors(t *testing.T) { // P27.1
	refuses := func(what string, c crew.Crew, id uint64, wanted api.Errno) {
		t.Helper()
		then, e := c.Ready(id, 5)
		is(t, what, e, wanted)
		same(t, what, told(then), told(c))
	}
	c := next(t, drained(t), on(any80), 5, 0) // 4 is the parent
	for _, id := range []uint64{0, 2, 6, most} {
		refuses("nobody", c, id, api.ErrNone)
	}
	for _, id := range []uint64{1, 3, 4, 5} {
		refuses("not starting", c, id, api.ErrState)
	}
}

// drained: as drainers, but that the second one is gone.
func drained(t *testing.T) crew.Crew {
	t.Helper()
	return die(t, drainers(t, 9), 2)
}

func TestBusy(t *testing.T) { // P27.1
	c := crew.New(5)
	is(t, "an empty one", c.Busy(), false)
	c = start(t, c, on(any80), 1)
	is(t, "one starts", c.Busy(), true)
	c = ready(t, c, 1, 0)
	is(t, "one serves", c.Busy(), false)
	c = start(t, c, on(any80), 2)
	is(t, "another starts", c.Busy(), true)
	is(t, "it is gone", die(t, c, 2).Busy(), false)
	is(t, "the one that serves is gone", die(t, c, 1).Busy(), true)
	c = ready(t, c, 2, 0)
	is(t, "a handoff", c.Busy(), true)
	is(t, "its child is gone", die(t, c, 2).Busy(), false)
	is(t, "its parent is gone", die(t, c, 1).Busy(), false)
	c = deliver(t, c, 0, 0)
	is(t, "the token came", c.Busy(), true)
	c = deliver(t, c, 0, 0)
	is(t, "it was answered", c.Busy(), false)
	is(t, "how many live", len(c.Gens()), 2)
}

func TestDied(t *testing.T) { // P27.1, and the chapter's word of one that is gone
	c := start(t, drained(t), on(any80), 5) // 1, 3 and 5 beside 4, which serves
	c, _ = c.Close(3)
	for id, wanted := range map[uint64]proxy.Counts{1: {Accepted: 3, Closed: 3}, 3: {Accepted: 3, Closed: 2}, 4: {Accepted: 3, Closed: 2}, 5: {Accepted: 3, Closed: 2}} {
		x := die(t, c, id)
		is(t, "Total", x.Total(), wanted) // those of 2 and 3 were closed already
		is(t, "how many live", len(x.Gens()), 3)
		is(t, "does it live", slices.ContainsFunc(x.Gens(), func(g proxy.Gen) bool { return g.ID() == id }), false)
		_, e := x.Died(id)
		is(t, "Died once more", e, api.ErrNone)
		_, e = x.Ready(id, 0)
		is(t, "Ready of one that is gone", e, api.ErrNone)
		_, e = x.Close(id)
		is(t, "Close of what it had", e, api.ErrNone)
	}
	for _, id := range []uint64{0, 2, 6, most} {
		x, e := c.Died(id)
		is(t, "Died of nobody", e, api.ErrNone)
		same(t, "Died of nobody", told(x), told(c))
	}
	nobodys(t, "who serves is gone", die(t, c, 4), any80, own81)
}

func TestAccept(t *testing.T) { // P27.3
	c := next(t, crew.New(9), idles(5, any80, own81), 1, 0)
	c, conn, who, e := c.Accept(own81, 7, "a.b", "/x", 10)
	is(t, "Accept", e, api.OK)
	is(t, "the connection", conn, proxy.Conn{ID: 7, Cluster: "web", Until: 15})
	is(t, "who", who, 1)
	lists(t, "its connections", c.Gens()[0].Conns(), conn)
	is(t, "Total", c.Total(), proxy.Counts{Accepted: 1})
	c = next(t, c, idles(300, any80, own443), 2, 10)
	c, conn, who, e = c.Accept(own443, 0, "a.b", "/", most-1)
	is(t, "Accept of the child", e, api.OK)
	is(t, "the connection", conn, proxy.Conn{Cluster: "web", Until: most})
	is(t, "who", who, 2)
	c = allDelivered(t, c, 10)
	c = comes(t, c, any80, 8, 10, 2)
	lists(t, "who drains has what it had", c.Gens()[0].Conns(), proxy.Conn{ID: 7, Cluster: "web", Until: 15})
}

func TestAcceptErrors(t *testing.T) { // P27.3: which is told ahead of which
	refuses := func(what string, c crew.Crew, p spot.Place, id uint64, host string, wanted api.Errno) crew.Crew {
		t.Helper()
		then, conn, who, e := c.Accept(p, id, host, "/", 0)
		is(t, what, e, wanted)
		is(t, what+": beside the error", conn == proxy.Conn{} && who == 0, true)
		return then
	}
	stays := func(what string, c crew.Crew, p spot.Place, id uint64, host string, wanted api.Errno) {
		t.Helper()
		same(t, what, told(refuses(what, c, p, id, host, wanted)), told(c))
	}
	c := next(t, drained(t), on(any80, own443), 5, 0) // 1 and 3 have connections, 4 gives any80 to 5, which owns own443
	c = comes(t, c, own443, 9, 0, 5)
	for _, id := range []uint64{1, 3, 9} {
		for _, p := range []spot.Place{any80, own81, own443, {}} {
			stays("there", c, p, id, "a.b", api.ErrTwice)
			stays("there, and no route", c, p, id, "q", api.ErrTwice)
		}
	}
	for _, p := range []spot.Place{any80, own81, own80, {}, {Port: 443}, {IP: own443.IP, Port: 80}} {
		stays("nobody's", c, p, 2, "a.b", api.ErrOwner)
		stays("nobody's, and no route", c, p, 2, "q", api.ErrOwner)
	}
	then := refuses("no route", c, own443, 2, "q", api.ErrNone)
	is(t, "it is counted", then.Total(), proxy.Counts{Accepted: 4, Closed: 1, Refused: 1})
	is(t, "by who refused it", then.Gens()[3].Counts(), proxy.Counts{Accepted: 1, Refused: 1})
	is(t, "all else stays", len(then.Pipe().All()) == 1 && then.Busy() && len(then.Gens()[3].Conns()) == 1, true)
	for id := range uint64(63) {
		c = comes(t, c, own443, 100+id, 0, 5)
	}
	stays("full", c, own443, 2, "a.b", api.ErrFull)
	stays("full, and no route", c, own443, 2, "q", api.ErrFull)
	stays("full, and there", c, own443, 3, "a.b", api.ErrTwice)
	stays("full, and nobody's", c, any80, 2, "a.b", api.ErrOwner)
}

func TestClose(t *testing.T) { // P27.3: of who has it
	c := comes(t, drained(t), own81, 9, 0, 4)
	for _, id := range []uint64{1, 3, 9} {
		x, e := c.Close(id)
		is(t, "Close", e, api.OK)
		is(t, "Total", x.Total(), proxy.Counts{Accepted: 4, Closed: 2})
		for _, g := range x.Gens() {
			is(t, "does anybody have it", slices.ContainsFunc(g.Conns(), func(c proxy.Conn) bool { return c.ID == id }), false)
		}
		is(t, "how many live", len(x.Gens()), 3) // one that drains goes with the next tick
		_, e = x.Close(id)
		is(t, "Close once more", e, api.ErrNone)
		comes(t, x, any80, id, 0, 4)
	}
	for _, id := range []uint64{0, 2, 4, most} {
		x, e := c.Close(id)
		is(t, "Close of none", e, api.ErrNone)
		same(t, "Close of none", told(x), told(c))
	}
}

func TestTickIdle(t *testing.T) { // P27.2: of all that live
	c := comes(t, next(t, crew.New(most), idles(5, any80), 1, 0), any80, 1, 0, 1)
	c = comes(t, c, any80, 2, 3, 1)
	c = allDelivered(t, next(t, c, idles(4, any80), 2, 3), 3)
	c = comes(t, c, any80, 3, 3, 2)
	c = comes(t, c, any80, 4, 4, 2)
	for _, x := range []struct {
		now    uint64
		closed uint64
		lives  [][2]uint64
	}{
		{0, 0, [][2]uint64{{1, draining}, {2, isReady}}},
		{4, 0, [][2]uint64{{1, draining}, {2, isReady}}},
		{5, 1, [][2]uint64{{1, draining}, {2, isReady}}},
		{6, 1, [][2]uint64{{1, draining}, {2, isReady}}},
		{7, 2, [][2]uint64{{1, draining}, {2, isReady}}},
		{8, 4, [][2]uint64{{2, isReady}}}, // without connections who drains is gone
		{most, 4, [][2]uint64{{2, isReady}}},
	} {
		y := c.Tick(x.now)
		is(t, "Total", y.Total(), proxy.Counts{Accepted: 4, Closed: x.closed})
		lives(t, "Tick", y, x.lives...)
	}
}

func TestTickOfWhoStarts(t *testing.T) { // P27.2: it is neither gone nor ready
	c := start(t, next(t, crew.New(0), on(any80), 1, 0), on(any80), 2)
	for _, now := range []uint64{0, 1, most} {
		same(t, "Tick", told(c.Tick(now)), told(c))
	}
}

func TestDeadline(t *testing.T) { // P27.2, and the chapter's word of an end: now and Drain
	for _, x := range []struct{ drain, now, deadline uint64 }{
		{0, 0, 0}, {0, 7, 7}, {5, 7, 12}, {most, 0, most}, {most, 7, most}, {1, most, most}, {most - 7, 7, most}, {most - 8, 7, most - 1}, {1 << 63, 1 << 63, most},
	} {
		c := comes(t, next(t, crew.New(x.drain), on(any80), 1, 0), any80, 1, 0, 1)
		ended := map[string]crew.Crew{
			"with what is given":    allDelivered(t, next(t, c, on(any80), 2, 0), x.now),
			"with nothing is given": next(t, c, on(own443), 2, x.now),
		}
		for what, c := range ended {
			lives(t, what, c, [2]uint64{1, draining}, [2]uint64{2, isReady})
			is(t, what+": Busy", c.Busy(), false)
			if x.deadline > 0 {
				lives(t, what+", ahead of it", c.Tick(x.deadline-1), [2]uint64{1, draining}, [2]uint64{2, isReady})
			}
			gone := c.Tick(x.deadline)
			lives(t, what+", at it", gone, [2]uint64{2, isReady})
			is(t, what+": Total", gone.Total(), proxy.Counts{Accepted: 1, Closed: 1})
			lives(t, what+", at the last tick", c.Tick(most), [2]uint64{2, isReady})
			without, _ := c.Close(1)
			lives(t, what+", without connections", without.Tick(0), [2]uint64{2, isReady})
		}
	}
}

func TestEachHasItsDeadline(t *testing.T) { // P27.2: of each that is Draining
	c := crew.New(10)
	for id := uint64(1); id <= 4; id++ {
		c = comes(t, allDelivered(t, next(t, c, on(any80), id, id), 2*id), any80, id, 0, id) // 1 has it at 14, 2 at 16, 3 at 18
	}
	for now, wanted := range map[uint64]int{0: 4, 13: 4, 14: 3, 15: 3, 16: 2, 17: 2, 18: 1, most: 1} {
		x := c.Tick(now)
		is(t, "how many live", len(x.Gens()), wanted)
		serves(t, "Tick", x, 4)
		is(t, "Total", x.Total(), proxy.Counts{Accepted: 4, Closed: uint64(4 - wanted)})
	}
}

func TestPipeOfOneThatIsGone(t *testing.T) { // the chapter's word of one that is gone: nothing on the pipe is for it
	c := next(t, crew.New(5), on(any80), 1, 0)
	c = next(t, c, on(any80), 2, 0)
	c = deliver(t, double(t, double(t, c, 0), 0), 0, 0) // two tokens, and what was answered
	c = deliver(t, double(t, c, 2), 2, 0)               // that the first place is taken
	left := []pipe.Item{token(2, 1, any80), token(2, 1, any80), taken(1, 1, any80)}
	lists(t, "what is left over", c.Pipe().All(), left...)
	is(t, "Busy", c.Busy(), false)
	lists(t, "who drains is gone", c.Tick(0).Pipe().All(), left[:2]...)
	lists(t, "who drains dies", die(t, c, 1).Pipe().All(), left[:2]...)
	lists(t, "who serves dies", die(t, c, 2).Pipe().All(), left[2])
	same(t, "what is left over counts for nothing", told(allDelivered(t, c, 9)), func() tells {
		s := told(c)
		s.pipe = nil
		return s
	}())
}

func TestPipesOwn(t *testing.T) { // P27.2: layer 25's Double and Lose
	c := next(t, next(t, crew.New(5), on(any80, own81, own82), 1, 0), on(any80, own81, own82), 2, 0)
	all := []pipe.Item{token(2, 1, any80), token(2, 1, own81), token(2, 1, own82)}
	lists(t, "the tokens", c.Pipe().All(), all...)
	for i, x := range all {
		lists(t, "Double", double(t, c, i).Pipe().All(), append(slices.Clone(all), x)...)
		lists(t, "Lose", lose(t, c, i).Pipe().All(), slices.Delete(slices.Clone(all), i, i+1)...)
	}
	nothingComes(t, c)
	for range 70 {
		c = double(t, c, 0)
	}
	is(t, "no more than there may be", c.Pipe().Len(), 64)
	c = c.Tick(0)
	lists(t, "those that are sent again are the last ones", c.Pipe().All()[61:], all...)
	is(t, "the first go", c.Pipe().Len(), 64)
}

func TestOwner(t *testing.T) { // P27.3
	c := next(t, crew.New(5), on(any80, own81, own443), 1, 0)
	for _, p := range []spot.Place{any80, own81, own443} {
		who, owned := c.Owner(p)
		is(t, "the Owner", who, 1)
		is(t, "is it owned", owned, true)
	}
	nobodys(t, "others", c, own80, any90, spot.Place{}, spot.Place{IP: own443.IP}, spot.Place{IP: own443.IP, Port: 80})
}

func TestAnswersAreNew(t *testing.T) { // the rule on memory
	x := on(any80, own81)
	c := start(t, crew.New(5), x, 1)
	x.Listeners[0].Place, x.Listeners[0].Routes[0].Host = own443, "q"
	c = ready(t, c, 1, 0)
	owns(t, "what was handed in is turned", c, 1, any80, own81)
	c = comes(t, c, any80, 1, 0, 1)
	was := told(c)
	l := c.Gens()
	clear(l)
	g, _ := c.Serving()
	owned, conns := g.Owns(), g.Conns()
	clear(owned)
	clear(conns)
	same(t, "what was answered is turned", told(c), was)
}
