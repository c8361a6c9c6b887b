package agent_test

import (
	"math"
	"slices"
	"strconv"
	"strings"
	"testing"
	"unsafe"

	"outrider/agent"
	"outrider/api"
	"outrider/backoff"
	"outrider/cache"
	"outrider/config"
	"outrider/disk"
	"outrider/ledger"
	"outrider/proxy"
	"outrider/session"
	"outrider/spot"
)

func TestBoot(t *testing.T) { // P28.1; the example: of an empty disk nobody serves
	a := boot(t, fresh(t), 1)
	same(t, "of an empty disk", tell(a), told{tells: tells{session: session.New(setting(1).Wait, 0)}})
	_, serves := a.Crew().Serving()
	is(t, "does anybody serve", serves, false)
	d := fresh(t)
	c := kept(t, d, 1)
	for port := uint16(81); port < 84; port++ {
		_, e := c.Persist(on(port))
		does(t, "Persist", e)
		a = boot(t, d, 1)
		is(t, "the session", a.Session(), session.New(setting(1).Wait, 1000+uint64(port)))
		lives(t, "the best starts", a, [2]uint64{1, starting})
		last(t, "the best starts", a, on(port))
		is(t, "Now", a.Now(), 0)
		lists(t, "Out", a.Out())
		does(t, "Err", a.Err())
	}
	does(t, "Died", c.Died(printOf(on(83))))
	a = boot(t, d, 1)
	is(t, "the one ahead", a.Session().Version, 1082)
	lives(t, "the one ahead", a, [2]uint64{1, starting})
	last(t, "the one ahead", a, on(82))
	does(t, "Died", c.Died(printOf(on(82))))
	a = boot(t, d, 1)
	is(t, "both held", a.Session().Version, 0)
	lives(t, "both held", a)
	slots(t, "both held", a, 1083, 1082)
}

func TestBootErrors(t *testing.T) { // P28.1: layer 17's
	refuses := func(what string, d *disk.Disk, k int, wanted api.Errno) {
		t.Helper()
		a, e := agent.Boot(d, setting(k))
		is(t, what, e, wanted)
		is(t, what+": is there an agent", a != nil, false)
	}
	d := fresh(t)
	does(t, "Write", d.Write("led", "broken"))
	does(t, "Write", d.Write("cfg-t", "left over"))
	for _, k := range []int{0, -1, 256, math.MinInt, math.MaxInt} {
		refuses("K", d, k, api.ErrRange)
		refuses("K, of nil", nil, k, api.ErrRange)
	}
	refuses("nil", nil, 1, api.ErrNil)
	refuses("what is no ledger", d, 1, api.ErrBroken)
	does(t, "Write", d.Write("cfg-t", "left over"))
	d.Fuse(0)
	refuses("a fuse", d, 1, api.ErrPower)
	refuses("without power", d, 1, api.ErrPower)
}

// asks: each call that may be refused, with something that isn't.
func asks(a *agent.Agent) map[string]func() api.Errno {
	return map[string]func() api.Errno{
		"Message": func() api.Errno { return a.Message(offer(1, 9, on(90))) },
		"Tick":    func() api.Errno { return a.Tick(1) },
		"Lost":    a.Lost,
		"Ready":   func() api.Errno { return a.Ready(2) },
		"Died":    func() api.Errno { return a.Died(1) },
		"Deliver": func() api.Errno { return a.Deliver(0) },
		"Double":  func() api.Errno { return a.Double(0) },
		"Lose":    func() api.Errno { return a.Lose(0) },
		"Clear":   func() api.Errno { return a.Clear(api.Print{}) },
		"Accept": func() api.Errno {
			c, who, e := a.Accept(place(81), 1, "a.b", "/")
			if e != api.OK && (c != proxy.Conn{} || who != 0) {
				return -1
			}
			return e
		},
		"Close": func() api.Errno { return a.Close(7) },
	}
}

func TestNil(t *testing.T) { // P28.1: of all ErrNil
	var a *agent.Agent
	for what, ask := range asks(a) {
		is(t, what, ask(), api.ErrNil)
	}
	is(t, "Err", a.Err(), api.ErrNil)
	text, ok := a.Take()
	is(t, "Take", text == "" && !ok, true)
	is(t, "Cache", a.Cache() == nil, true)
	is(t, "Session", a.Session(), session.Session{})
	is(t, "Now", a.Now(), 0)
	lists(t, "Out", a.Out())
	is(t, "Crew", len(a.Crew().Gens()), 0)
	x, id, e := a.Crew().Start(on(81)) // of which P1 holds
	is(t, "Start of it", e == api.OK && id == 1 && len(x.Gens()) == 1, true)
}

func TestOfOneThatIsLost(t *testing.T) { // P28.1, and the chapter's word: each call answers ErrPower, and does nothing
	d, a := serving(t, 1)
	_, _, e := a.Accept(shared, 7, "a.b", "/")
	does(t, "Accept", e)
	given(t, a, 2, on(82))
	does(t, "Message", a.Message(offer(1, 3, on(83))))
	does(t, "Ready", a.Ready(2)) // a handoff is on
	d.Fuse(0)
	is(t, "Message", a.Message(offer(1, 4, on(84))), api.ErrPower)
	is(t, "Err", a.Err(), api.ErrPower)
	d.Crash(nil, nil) // the power is there again, but not for this agent
	was := tell(a)
	for what, ask := range asks(a) {
		is(t, what, ask(), api.ErrPower)
		same(t, what, tell(a), was)
		is(t, what+": Err", a.Err(), api.ErrPower)
	}
	is(t, "does nobody's number tell something else", a.Died(99), api.ErrPower)
	is(t, "does no message", a.Message("x"), api.ErrPower)
	is(t, "steps on the disk", d.Pending(), 0)
	takes(t, a, ack(1, 1083, 3))
	slots(t, "booted again", boot(t, d, 1), 1083, 1082)
}

func TestMessageErrors(t *testing.T) { // P28.2: layer 19's
	_, a := serving(t, 1)
	was := tell(a)
	refuses := func(what, text string, wanted api.Errno) {
		t.Helper()
		is(t, what, a.Message(text), wanted)
		same(t, what, tell(a), was)
	}
	fine := offer(1, 2, on(82))
	for what, text := range map[string]string{"nothing": "", "a letter": "x", "a byte less": fine[1:], "a byte more": fine + "x", "two": fine + fine} {
		refuses(what, text, api.ErrForm)
	}
	for what, text := range map[string]string{"a Subscribe": subscribe(1, 5), "an Ack": ack(1, 1081, 2), "a Nack": nack(1, 1081, 2, 4), "an Ack of another epoch": ack(2, 0, 0)} {
		refuses(what, text, api.ErrKind)
	}
	for what, text := range map[string]string{"an elder epoch": offer(0, 2, on(82)), "a later one": offer(2, 2, on(82)), "an elder nonce": offer(1, 0, on(82))} {
		refuses(what, text, api.ErrStale)
	}
	shut := boot(t, fresh(t), 1)
	is(t, "not open", shut.Message(offer(1, 1, on(81))), api.ErrStale)
	is(t, "not open, of no epoch", shut.Message(offer(0, 1, on(81))), api.ErrStale)
	same(t, "not open", tell(shut), tell(boot(t, fresh(t), 1)))
}

func TestMessageTwice(t *testing.T) { // P28.2; the document's seventh example: the same Ack twice
	_, a := serving(t, 1)
	for range 3 {
		is(t, "once more", a.Message(offer(1, 1, on(81))), api.ErrTwice)
		is(t, "of another config", a.Message(offer(1, 1, on(84))), api.ErrTwice)
		takes(t, a, ack(1, 1081, 1), ack(1, 1081, 1))
	}
	does(t, "Message", a.Message(session.Message(session.Offered, 1, "x", 6, 2)))
	is(t, "a Nack once more", a.Message(session.Message(session.Offered, 1, "x", 6, 2)), api.ErrTwice)
	takes(t, a, nack(1, 1081, 2, api.ErrKind), nack(1, 1081, 2, api.ErrKind))
	is(t, "an elder one", a.Message(offer(1, 1, on(81))), api.ErrStale)
	takes(t, a)
	slots(t, "behind all that", a, 1081)
}

func TestMessageIsApplied(t *testing.T) { // P28.2: it is persisted, acknowledged, and started
	d := fresh(t)
	a := talking(t, d, 1)
	given(t, a, 1, on(81))
	slots(t, "the first", a, 1081)
	is(t, "the session's Version", a.Session().Version, 1081)
	lives(t, "the first", a, [2]uint64{1, starting})
	last(t, "the first", a, on(81))
	does(t, "Ready", a.Ready(1))
	given(t, a, 5, on(82)) // nonces may be left out
	slots(t, "the next", a, 1082, 1081)
	lives(t, "the next", a, [2]uint64{1, isReady}, [2]uint64{2, starting})
	last(t, "the next", a, on(82))
	d.Crash(nil, nil) // what survives is what is sure
	slots(t, "booted again", boot(t, d, 1), 1082, 1081)
}

func TestMessageOfAnotherVersion(t *testing.T) { // P28.2: the offer's is acknowledged, the config's is kept
	a := talking(t, fresh(t), 1)
	does(t, "Message", a.Message(session.Message(session.Offered, 1, written(on(81)), 7, 1)))
	takes(t, a, ack(1, 7, 1))
	is(t, "the session's Version", a.Session().Version, 7)
	slots(t, "kept", a, 1081)
}

func TestMessageIsRefused(t *testing.T) { // P28.2, the document's sixth example: a Nack with its code, and nothing is turned
	d, a := serving(t, 1)
	does(t, "Died", a.Cache().Died(printOf(on(83))))
	d.Write("others", strings.Repeat("x", api.MaxDisk-d.Used()-100))
	twice := on(82)
	twice.Listeners[1].Name = "main"
	nonce := uint64(1)
	for _, x := range []struct {
		what, body string
		code       api.Errno
	}{
		{"nothing", "", api.ErrShort}, // layer 9's Parse's
		{"half a config", written(on(82))[:9], api.ErrShort},
		{"a config and a rest", written(on(82)) + "x", api.ErrForm},
		{"no value", "x", api.ErrKind},
		{"no config", "\x01\x05", api.ErrForm},
		{"too many", written(config.Config{})[:4] + "\x03\x09" + strings.Repeat("\x03\x03\x02\x00\x02\x06\x00\x00\x00\x00\x00\x50\x03\x00", 9) + "\x03\x00", api.ErrMany},
		{"without a cluster", written(broken()), api.ErrNone}, // layer 10's Check's
		{"a name twice", written(twice), api.ErrTwice},
		{"held", written(on(83)), api.ErrHeld}, // layer 17's Persist's
		{"held, of another version", written(versioned(on(83), 9)), api.ErrHeld},
		{"no room", written(on(82)), api.ErrSpace},
	} {
		was := tell(a)
		nonce++
		does(t, x.what, a.Message(session.Message(session.Offered, 1, x.body, 70, nonce)))
		takes(t, a, nack(1, 1081, nonce, x.code))
		was.session.Nonce, was.session.Reply = nonce, nack(1, 1081, nonce, x.code)
		same(t, x.what, tell(a), was)
	}
	does(t, "Remove", d.Remove("others"))
	given(t, a, nonce+1, on(82))
	slots(t, "with room", a, 1082, 1081)
}

func TestMessageWithoutPower(t *testing.T) { // P28.2, P2: nothing goes out, the session has taken the offer
	for fuse := range 5 {
		d, a := serving(t, 1)
		was := tell(a)
		d.Fuse(fuse)
		e := a.Message(offer(1, 2, on(82)))
		if fuse == 4 {
			does(t, "Message", e)
			takes(t, a, ack(1, 1082, 2))
			continue
		}
		is(t, "Message", e, api.ErrPower)
		was.session.Nonce, was.session.Reply, was.err = 2, "", api.ErrPower
		same(t, "Message", tell(a), was)
		d.Crash([]bool{true, true, true}, []uint64{most, most, most})
		b := boot(t, d, 1)
		if fuse == 3 {
			slots(t, "what was in flight", b, 1082, 1081)
			last(t, "what was in flight", b, on(82))
		} else {
			slots(t, "what was persisted", b, 1081)
			last(t, "what was persisted", b, on(81))
		}
	}
}

func TestTick(t *testing.T) { // P28.3
	d := fresh(t)
	a := boot(t, d, 1)
	does(t, "Tick", a.Tick(7))
	is(t, "Now", a.Now(), 7)
	takes(t, a, subscribe(1, 0))
	does(t, "Lost", a.Lost()) // Next is 9
	for now := uint64(8); now < 9; now++ {
		does(t, "Tick", a.Tick(1))
		takes(t, a)
	}
	does(t, "Tick", a.Tick(0))
	takes(t, a)
	does(t, "Tick", a.Tick(1))
	takes(t, a, subscribe(2, 0))
	does(t, "Tick of an open one", a.Tick(5))
	takes(t, a)
	is(t, "Now", a.Now(), 14)
	for range 3 { // it doesn't go round
		does(t, "Tick", a.Tick(most-1))
	}
	is(t, "Now", a.Now(), most)
}

func TestTickIsTheCrews(t *testing.T) { // P28.3
	_, a := serving(t, 1)
	does(t, "Tick", a.Tick(3))
	_, _, e := a.Accept(shared, 7, "a.b", "/") // till 103
	does(t, "Accept", e)
	given(t, a, 2, on(82))
	does(t, "Ready", a.Ready(2))
	does(t, "Lose", a.Lose(0))
	does(t, "Tick", a.Tick(1))
	is(t, "what is lost is sent again", a.Crew().Pipe().Len(), 1)
	handed(t, a)               // at 4
	does(t, "Tick", a.Tick(4)) // 8
	lives(t, "ahead of the deadline", a, [2]uint64{1, draining}, [2]uint64{2, isReady})
	does(t, "Tick", a.Tick(1)) // 9
	lives(t, "at the deadline", a, [2]uint64{2, isReady})
	is(t, "Total", a.Crew().Total(), proxy.Counts{Accepted: 1, Closed: 1})
	_, _, e = a.Accept(shared, 8, "a.b", "/") // till 109
	does(t, "Accept", e)
	does(t, "Tick", a.Tick(99))
	is(t, "ahead of its end", len(a.Crew().Gens()[0].Conns()), 1)
	does(t, "Tick", a.Tick(1))
	is(t, "idle too long", len(a.Crew().Gens()[0].Conns()), 0)
}

func TestLost(t *testing.T) { // P28.3: the session's, now
	a := boot(t, fresh(t), 1)
	was := tell(a)
	does(t, "Lost of one that isn't open", a.Lost())
	same(t, "Lost of one that isn't open", tell(a), was)
	does(t, "Tick", a.Tick(10))
	s := a.Session()
	does(t, "Lost", a.Lost())
	is(t, "the session", a.Session(), s.Lost(10))
	is(t, "when it tries", a.Session().Next, 12)
	takes(t, a, subscribe(1, 0))
	is(t, "an offer", a.Message(offer(1, 1, on(81))), api.ErrStale)
}

func TestReady(t *testing.T) { // P28.3
	_, a := serving(t, 3)
	given(t, a, 2, on(82))
	p := printOf(on(82))
	does(t, "Died", a.Died(2))
	does(t, "Died", a.Died(3))
	is(t, "Deaths", a.Cache().Entry(p), ledger.Entry{Print: p, Deaths: 2})
	was := tell(a)
	for id, wanted := range map[uint64]api.Errno{0: api.ErrNone, 2: api.ErrNone, 3: api.ErrNone, 5: api.ErrNone, most: api.ErrNone, 1: api.ErrState} {
		is(t, "Ready of another", a.Ready(id), wanted)
		same(t, "Ready of another", tell(a), was)
	}
	does(t, "Ready", a.Ready(4))
	is(t, "Deaths", a.Cache().Entry(p), ledger.Entry{Print: p})
	lives(t, "Ready", a, [2]uint64{1, isReady}, [2]uint64{4, isReady})
	is(t, "the handoff", a.Crew().Epoch(), 1)
}

func TestReadyOfWhatIsHeld(t *testing.T) { // P28.3: layer 17's Ready, by which what is held stays so
	_, a := serving(t, 1)
	given(t, a, 2, on(82))
	p := printOf(on(82))
	does(t, "Died", a.Cache().Died(p)) // nothing that the agent does holds back what starts
	does(t, "Ready", a.Ready(2))
	is(t, "its entry", a.Cache().Entry(p), ledger.Entry{Print: p, Held: true})
}

func TestReadyNow(t *testing.T) { // P28.3: the crew's, now
	_, a := serving(t, 1)
	does(t, "Tick", a.Tick(50))
	_, _, e := a.Accept(shared, 7, "a.b", "/")
	does(t, "Accept", e)
	x := on(82)
	x.Listeners = x.Listeners[1:] // the handoff ends at once
	given(t, a, 2, x)
	does(t, "Ready", a.Ready(2))
	lives(t, "the end", a, [2]uint64{1, draining}, [2]uint64{2, isReady})
	does(t, "Tick", a.Tick(4))
	lives(t, "ahead of the deadline", a, [2]uint64{1, draining}, [2]uint64{2, isReady})
	does(t, "Tick", a.Tick(1))
	lives(t, "at the deadline", a, [2]uint64{2, isReady})
}

func TestReadyNoneTheLess(t *testing.T) { // P28.3: its error; it is ready, and it settles
	for what, wanted := range map[string]api.Errno{"no room": api.ErrSpace, "power": api.ErrPower} {
		d := fresh(t)
		a := talking(t, d, 3)
		given(t, a, 1, on(81))
		does(t, "Died", a.Died(1))
		given(t, a, 2, on(82)) // which waits, since 2 starts
		if wanted == api.ErrPower {
			d.Fuse(2)
		} else {
			does(t, "Write", d.Write("others", strings.Repeat("x", api.MaxDisk-d.Used())))
		}
		is(t, what, a.Ready(2), wanted)
		lives(t, what, a, [2]uint64{2, isReady}, [2]uint64{3, starting})
		last(t, what, a, on(82))
		p := printOf(on(81))
		is(t, what+": nothing else is known", a.Cache().Entry(p), ledger.Entry{Print: p, Deaths: 1})
		is(t, what+": Err", a.Err() == api.ErrPower, wanted == api.ErrPower)
	}
}

func TestDied(t *testing.T) { // P28.3
	_, a := serving(t, 2)
	given(t, a, 2, on(82))
	p := printOf(on(82))
	was := tell(a)
	for _, id := range []uint64{0, 3, 99, most} {
		is(t, "Died of nobody", a.Died(id), api.ErrNone)
		same(t, "Died of nobody", tell(a), was)
	}
	does(t, "Died of one that starts", a.Died(2))
	is(t, "its entry", a.Cache().Entry(p), ledger.Entry{Print: p, Deaths: 1})
	lives(t, "it starts anew", a, [2]uint64{1, isReady}, [2]uint64{3, starting})
	last(t, "it starts anew", a, on(82))
	does(t, "Ready", a.Ready(3))
	does(t, "Died of a child", a.Died(3))
	is(t, "its entry", a.Cache().Entry(p), ledger.Entry{Print: p})
	lives(t, "it starts anew", a, [2]uint64{1, isReady}, [2]uint64{4, starting})
	_, owned := a.Crew().Owner(shared)
	is(t, "the parent has all again", owned, true)
	does(t, "Ready", a.Ready(4))
	_, _, e := a.Accept(place(82), 7, "a.b", "/")
	does(t, "Accept", e)
	handed(t, a)
	does(t, "Died of one that drains", a.Died(1))
	lives(t, "it is gone", a, [2]uint64{4, isReady})
	does(t, "Died of who serves", a.Died(4))
	lives(t, "it starts anew", a, [2]uint64{5, starting})
	last(t, "it starts anew", a, on(82))
	is(t, "Total", a.Crew().Total(), proxy.Counts{Accepted: 1, Closed: 1})
	lists(t, "the ledger", a.Cache().All())
}

func TestDiedTooOften(t *testing.T) { // P28.3, P4, the document's tenth example: the config ahead of it again
	for _, k := range []int{1, 2, 5} {
		d, a := serving(t, k)
		given(t, a, 2, on(82))
		p := printOf(on(82))
		for n := range k {
			last(t, "it starts", a, on(82))
			is(t, "is it held", a.Cache().Entry(p).Held, false)
			does(t, "Died", a.Died(uint64(2+n)))
			is(t, "its entry", a.Cache().Entry(p), ledger.Entry{Print: p, Deaths: n + 1, Held: n+1 == k})
		}
		lives(t, "the one ahead serves still", a, [2]uint64{1, isReady})
		does(t, "Died of who serves", a.Died(1))
		lives(t, "the one ahead starts", a, [2]uint64{uint64(2 + k), starting})
		last(t, "the one ahead starts", a, on(81))
		does(t, "Message", a.Message(offer(1, 3, on(82))))
		takes(t, a, nack(1, 1082, 3, api.ErrHeld))
		d.Crash(nil, nil)
		b := boot(t, d, k)
		is(t, "held, across a loss of power", b.Cache().Entry(p).Held, true)
		last(t, "the one ahead, across a loss of power", b, on(81))
		does(t, "Clear", b.Clear(p))
		is(t, "is it held", b.Cache().Entry(p).Held, false)
		does(t, "Died", b.Died(1))
		last(t, "it is cleared", b, on(82))
	}
}

func TestDiedAllHeld(t *testing.T) { // P4: what is held isn't started, whatever is left
	a := talking(t, fresh(t), 1)
	given(t, a, 1, on(81))
	does(t, "Died", a.Died(1))
	lives(t, "the only one is held", a)
	given(t, a, 2, on(82))
	does(t, "Died", a.Died(2))
	lives(t, "both are held", a)
	does(t, "Tick", a.Tick(9))
	lives(t, "later", a)
	does(t, "Clear", a.Clear(printOf(on(81))))
	lives(t, "the elder one is cleared", a, [2]uint64{3, starting})
	last(t, "the elder one is cleared", a, on(81))
}

func TestDiedNoneTheLess(t *testing.T) { // P28.3: the error of the first; but of ErrPower it is gone, and it settles
	d, a := serving(t, 1)
	given(t, a, 2, on(82))
	does(t, "Write", d.Write("others", strings.Repeat("x", api.MaxDisk-d.Used())))
	is(t, "no room", a.Died(2), api.ErrSpace)
	lives(t, "no room", a, [2]uint64{1, isReady}, [2]uint64{3, starting})
	last(t, "no room", a, on(82))
	does(t, "Remove", d.Remove("others"))
	for n := range api.MaxHeld {
		does(t, "Died", a.Cache().Died(api.Print{byte(n)}))
	}
	is(t, "a full ledger", a.Died(3), api.ErrFull)
	lives(t, "a full ledger", a, [2]uint64{1, isReady}, [2]uint64{4, starting})
	does(t, "Clear", a.Clear(api.Print{7}))
	does(t, "Died", a.Died(4))
	lives(t, "room in the ledger", a, [2]uint64{1, isReady})
}

func TestDiedWithoutPower(t *testing.T) { // P28.3: of ErrPower only that is done
	for fuse := range 5 {
		d, a := serving(t, 1)
		given(t, a, 2, on(82))
		was := tell(a)
		d.Fuse(fuse)
		e := a.Died(2)
		if fuse == 4 {
			does(t, "Died", e)
			lives(t, "Died", a, [2]uint64{1, isReady})
			continue
		}
		is(t, "Died", e, api.ErrPower)
		was.err = api.ErrPower
		same(t, "Died", tell(a), was)
	}
	d, a := serving(t, 1)
	d.Fuse(0)
	does(t, "Died of who serves asks no disk", a.Died(1))
	lives(t, "it starts anew", a, [2]uint64{2, starting})
	is(t, "Died", a.Died(2), api.ErrPower)
}

func TestDeliverDoubleLose(t *testing.T) { // P28.3: the crew's, now
	_, a := serving(t, 1)
	given(t, a, 2, on(82))
	for _, i := range []int{0, -1, 64, math.MaxInt, math.MinInt} {
		is(t, "Deliver", a.Deliver(i), api.ErrNone)
		is(t, "Double", a.Double(i), api.ErrNone)
		is(t, "Lose", a.Lose(i), api.ErrNone)
	}
	does(t, "Tick", a.Tick(20))
	_, _, e := a.Accept(shared, 7, "a.b", "/")
	does(t, "Accept", e)
	does(t, "Ready", a.Ready(2))
	does(t, "Double", a.Double(0))
	does(t, "Double", a.Double(1))
	is(t, "the pipe", a.Crew().Pipe().Len(), 3)
	does(t, "Lose", a.Lose(2))
	is(t, "Lose", a.Lose(2), api.ErrNone)
	is(t, "the pipe", a.Crew().Pipe().Len(), 2)
	does(t, "Tick", a.Tick(3))
	handed(t, a)
	does(t, "Tick", a.Tick(4)) // 27
	lives(t, "ahead of the deadline", a, [2]uint64{1, draining}, [2]uint64{2, isReady})
	does(t, "Tick", a.Tick(1))
	lives(t, "at the deadline", a, [2]uint64{2, isReady})
}

func TestClear(t *testing.T) { // P28.3
	d, a := serving(t, 1)
	given(t, a, 2, on(82))
	does(t, "Died", a.Died(2))
	p := printOf(on(82))
	was := tell(a)
	does(t, "Clear of another", a.Clear(api.Print{1}))
	same(t, "Clear of another", tell(a), was)
	does(t, "Write", d.Write("others", strings.Repeat("x", api.MaxDisk-d.Used())))
	is(t, "no room", a.Clear(p), api.ErrSpace)
	same(t, "no room", tell(a), was)
	does(t, "Remove", d.Remove("others"))
	d.Fuse(1)
	is(t, "power", a.Clear(p), api.ErrPower)
	was.err = api.ErrPower
	same(t, "power", tell(a), was)
}

func TestAcceptAndClose(t *testing.T) { // P28.3: the crew's, now
	_, a := serving(t, 1)
	refuses := func(what string, p spot.Place, id uint64, host string, wanted api.Errno) {
		t.Helper()
		c, who, e := a.Accept(p, id, host, "/")
		is(t, what, e, wanted)
		is(t, what+": beside the error", c == proxy.Conn{} && who == 0, true)
	}
	does(t, "Tick", a.Tick(20))
	c, who, e := a.Accept(shared, 7, "a.b", "/x")
	does(t, "Accept", e)
	is(t, "the connection", c, proxy.Conn{ID: 7, Cluster: "web", Until: 120})
	is(t, "who", who, 1)
	refuses("there", shared, 7, "q", api.ErrTwice)
	refuses("nobody's", place(82), 8, "q", api.ErrOwner)
	is(t, "Total", a.Crew().Total(), proxy.Counts{Accepted: 1})
	refuses("no route", shared, 8, "q", api.ErrNone)
	is(t, "it is counted", a.Crew().Total(), proxy.Counts{Accepted: 1, Refused: 1})
	is(t, "Close of none", a.Close(8), api.ErrNone)
	does(t, "Close", a.Close(7))
	is(t, "Total", a.Crew().Total(), proxy.Counts{Accepted: 1, Closed: 1, Refused: 1})
	is(t, "Close once more", a.Close(7), api.ErrNone)
}

func TestOut(t *testing.T) { // the chapter's word of what goes out: at most 64; then the first goes
	_, a := serving(t, 1)
	does(t, "Message", a.Message(offer(1, 2, config.Config{Version: 1})))
	does(t, "Message", a.Message(offer(1, 3, config.Config{Version: 2})))
	wanted := []string{ack(1, 1, 2), ack(1, 2, 3)}
	for n := range 70 {
		is(t, "once more", a.Message(offer(1, 3, config.Config{})), api.ErrTwice)
		wanted = append(wanted, ack(1, 2, 3))
		lists(t, "Out "+strconv.Itoa(n), a.Out(), wanted[max(0, len(wanted)-64):]...)
	}
	does(t, "Message", a.Message(offer(1, 4, config.Config{Version: 3})))
	is(t, "the last", a.Out()[63], ack(1, 3, 4))
	text, ok := a.Take()
	is(t, "Take", text == ack(1, 2, 3) && ok, true)
	is(t, "one less", len(a.Out()), 63)
	for len(a.Out()) > 1 {
		a.Take()
	}
	takes(t, a, ack(1, 3, 4))
}

func TestCache(t *testing.T) { // P28.3: its own
	d, a := serving(t, 1)
	is(t, "once more", a.Cache() == a.Cache(), true)
	_, e := a.Cache().Persist(on(82))
	does(t, "Persist", e)
	slots(t, "then", a, 1082, 1081)
	c, e := cache.Open(d, 1)
	does(t, "Open", e)
	lists(t, "on the disk", versions(c.Slots()), 1082, 1081)
}

func TestSettingStays(t *testing.T) { // P28.1: how to wait, and how long one may drain
	a, e := agent.Boot(fresh(t), agent.Setting{K: 255, Drain: most, Wait: backoff.Wait{Base: most, Cap: most, Tries: math.MinInt}})
	does(t, "Boot", e)
	is(t, "the session", a.Session(), session.New(backoff.Wait{Base: most, Cap: most, Tries: math.MinInt}, 0))
	does(t, "Tick", a.Tick(9))
	takes(t, a, subscribe(1, 0))
	given(t, a, 1, on(81))
	does(t, "Ready", a.Ready(1))
	_, _, e = a.Accept(shared, 7, "a.b", "/")
	does(t, "Accept", e)
	given(t, a, 2, on(82))
	does(t, "Ready", a.Ready(2))
	handed(t, a)
	does(t, "Tick", a.Tick(99))
	lives(t, "it drains still", a, [2]uint64{1, draining}, [2]uint64{2, isReady})
}

func TestAnswersAreNew(t *testing.T) { // the rule on memory
	_, a := serving(t, 1)
	is(t, "once more", a.Message(offer(1, 1, on(81))), api.ErrTwice)
	was := tell(a)
	clear(a.Out())
	clear(a.Crew().Gens())
	clear(a.Cache().Slots())
	same(t, "what was answered is turned", tell(a), was)
	one, other := a.Out()[0], a.Out()[0]
	s, u := a.Session(), a.Session()
	text, _ := a.Take()
	l := []*byte{}
	for _, x := range []string{one, other, text, s.Reply, u.Reply} {
		is(t, "the text", x, ack(1, 1081, 1))
		is(t, "does it share memory", slices.Contains(l, unsafe.StringData(x)), false)
		l = append(l, unsafe.StringData(x))
	}
	raw := []byte(offer(1, 2, on(82)))
	does(t, "Message", a.Message(unsafe.String(&raw[0], len(raw))))
	clear(raw)
	last(t, "what was handed in is turned", a, on(82))
	slots(t, "what was handed in is turned", a, 1082, 1081)
}
