package machine_test

import (
	"math"
	"strings"
	"testing"
	"unsafe"

	"outrider/agent"
	"outrider/api"
	"outrider/backoff"
	"outrider/finger"
	"outrider/machine"
	"outrider/proxy"
	"outrider/session"
	"outrider/status"
)

func TestNew(t *testing.T) { // P30.1; the example: a new one is up, and nobody serves
	for _, room := range []int{0, 1, 60000, api.MaxDisk} {
		m, e := machine.New(room, setting(1))
		is(t, "New", e, api.OK)
		is(t, "Up", m.Up(), true)
		is(t, "Status", m.Status(), status.Status{})
		is(t, "is there an agent", m.Agent() != nil, true)
		is(t, "the agent's own", m.Agent() == m.Agent() && m.Disk() == m.Disk(), true)
		is(t, "steps", m.Disk().Steps(), 0)
		lists(t, "names", m.Disk().Names())
	}
	m := fresh(t, 1)
	is(t, "its room", m.Disk().Write("a", strings.Repeat("x", api.MaxDisk)), api.OK)
	m, e := machine.New(10, setting(1))
	is(t, "New", e, api.OK)
	is(t, "its room", m.Disk().Write("a", strings.Repeat("x", 11)), api.ErrSpace)
	is(t, "its room", m.Disk().Write("a", strings.Repeat("x", 10)), api.OK)
}

func TestNewErrors(t *testing.T) { // P30.1: layer 13's, layer 28's error
	for _, x := range []struct{ room, k int }{{-1, 1}, {api.MaxDisk + 1, 1}, {math.MinInt, 1}, {math.MaxInt, 1}, {100, 0}, {100, 256}, {100, -1}, {-1, 0}} {
		m, e := machine.New(x.room, setting(x.k))
		is(t, "New", e, api.ErrRange)
		is(t, "is there a machine", m != nil, false)
	}
}

func TestSetting(t *testing.T) { // P30.1: of each boot the same
	m, e := machine.New(api.MaxDisk, agent.Setting{K: 2, Drain: 7, Wait: backoff.Wait{Base: 3, Cap: 9, Tries: 1}})
	is(t, "New", e, api.OK)
	for range 3 {
		is(t, "its Wait", m.Agent().Session(), session.New(backoff.Wait{Base: 3, Cap: 9, Tries: 1}, 0))
		does(t, m, machine.Crash(forever, nil, nil))
	}
	does(t, m, of(tick, 0), offer(1, on(81)), of(died, 1))
	is(t, "one death", m.Status().Held, 0)
	does(t, m, of(died, 2))
	is(t, "two deaths", m.Status().Held, 1)
	does(t, m, offer(2, on(82)), of(ready, 3))
	is(t, "a connection", m.Do(comes(7, shared, "a.b", "/")).Code, api.OK)
	does(t, m, offer(3, on(83)), of(ready, 4))
	handed(t, m)
	does(t, m, of(tick, 6))
	is(t, "it drains", m.Status().Gens, 2)
	does(t, m, of(tick, 1))
	is(t, "its deadline", m.Status().Gens, 1)
}

func TestNil(t *testing.T) { // P30.1 and P30.2
	var m *machine.Machine
	for kind := -1; kind <= 14; kind++ {
		codes(t, "nil", m, of(kind, 1), api.ErrNil)
	}
	codes(t, "nil, a crash", m, machine.Crash(1, []bool{true}, []uint64{1}), api.ErrNil)
	is(t, "Agent", m.Agent() == nil, true)
	is(t, "Disk", m.Disk() == nil, true)
	is(t, "Up", m.Up(), false)
	is(t, "Status", m.Status(), status.Status{Lost: api.ErrNil})
}

func TestCrashIsAnEvent(t *testing.T) { // P30.1, and the rule on memory
	names, sectors := []bool{true, false, true}, []uint64{7, most}
	e := machine.Crash(5, names, sectors)
	is(t, "Kind", e.Kind, crash)
	is(t, "N", e.N, 5)
	is(t, "its texts", e.Text+e.Host+e.Path, "")
	clear(names)
	clear(sectors)
	lists(t, "Names", e.Names, true, false, true)
	lists(t, "Sectors", e.Sectors, 7, most)
	e = machine.Crash(most, nil, nil)
	is(t, "N", e.N, most)
	is(t, "without lists", len(e.Names)+len(e.Sectors), 0)
}

func TestKinds(t *testing.T) { // P30.2: ErrKind, where there is no such kind
	m := serving(t, 1)
	was := tell(m.Agent(), m.Disk())
	for _, kind := range []int{-1, 14, 15, 256, 1 << 32, math.MinInt, math.MaxInt} {
		codes(t, "a kind", m, of(kind, 0), api.ErrKind)
		codes(t, "a kind", m, machine.Event{Kind: kind, Text: shared, Names: []bool{true}}, api.ErrKind)
		same(t, "a kind", tell(m.Agent(), m.Disk()), was)
	}
	stopped(t, m)
	codes(t, "ahead of ErrStop", m, of(14, 0), api.ErrKind)
	codes(t, "ahead of ErrStop", m, of(-1, 0), api.ErrKind)
}

// stopped takes a machine's power in the midst of an offer, of which something is left over.
func stopped(t *testing.T, m *machine.Machine) {
	t.Helper()
	does(t, m, of(fuse, 1))
	codes(t, "without power", m, offer(m.Agent().Session().Nonce+1, on(99)), api.ErrPower)
	is(t, "Up", m.Up(), false)
}

func TestTextOfTheController(t *testing.T) { // P30.2: the kind 0
	m := fresh(t, 1)
	does(t, m, of(tick, 0))
	takes(t, m, subscribe(1, 0))
	codes(t, "no message", m, text("x"), api.ErrForm)
	codes(t, "nothing", m, text(""), api.ErrForm)
	codes(t, "no Offer", m, text(ack(1, 1, 1)), api.ErrKind)
	does(t, m, offer(1, on(81)))
	codes(t, "twice", m, offer(1, on(81)), api.ErrTwice)
	codes(t, "an elder one", m, offer(0, on(81)), api.ErrStale)
	takes(t, m, ack(1, 1081, 1), ack(1, 1081, 1))
	does(t, m, text(session.Message(session.Offered, 1, "x", 6, 2)))
	takes(t, m, nack(1, 1081, 2, api.ErrKind))
	lists(t, "what is kept", versions(m.Agent()), 1081)
	is(t, "it starts", last(m), 1081)
}

func TestTicksAndTheLine(t *testing.T) { // P30.2: the kinds 1 and 2, and 10
	m := fresh(t, 1)
	codes(t, "Take of nothing", m, of(take, 0), api.ErrNone)
	does(t, m, of(tick, 7))
	is(t, "Now", m.Status().Now, 7)
	is(t, "Open", m.Status().Open, true)
	does(t, m, of(lost, 3)) // what N is tells nothing
	is(t, "Open", m.Status().Open, false)
	does(t, m, of(tick, 1), of(tick, 1))
	is(t, "Epoch", m.Status().Epoch, 2)
	takes(t, m, subscribe(1, 0), subscribe(2, 0))
	does(t, m, of(tick, most-9), of(tick, 1<<40), of(tick, most))
	is(t, "Now", m.Status().Now, most)
}

func TestGenerations(t *testing.T) { // P30.2: the kinds 3 and 4
	m := fresh(t, 2)
	for _, n := range []uint64{0, 1, 1 << 31, 1 << 32, 1<<32 + 1, 1<<63 + 1, most} {
		codes(t, "Ready of nobody", m, of(ready, n), api.ErrNone)
		codes(t, "Died of nobody", m, of(died, n), api.ErrNone)
	}
	does(t, m, of(tick, 0), offer(1, on(81)))
	for _, n := range []uint64{0, 2, 1<<32 + 1, 1<<63 + 1} {
		codes(t, "Ready of another", m, of(ready, n), api.ErrNone)
		codes(t, "Died of another", m, of(died, n), api.ErrNone)
	}
	does(t, m, of(died, 1))
	is(t, "it starts anew", last(m), 1081)
	does(t, m, of(ready, 2))
	codes(t, "Ready once more", m, of(ready, 2), api.ErrState)
	is(t, "it serves", m.Status().Gen, 2)
	does(t, m, of(died, 2))
	is(t, "it is gone", m.Status().Serving, false)
}

func TestThePipe(t *testing.T) { // P30.2: the kinds 5, 6, 7, of N as an int (above 2^31 - 1: that)
	m := serving(t, 1)
	does(t, m, offer(2, on(82)), of(ready, 2))
	pipe := func(what string, wanted int) {
		t.Helper()
		is(t, what, m.Agent().Crew().Pipe().Len(), wanted)
	}
	pipe("a handoff", 1)
	was := tell(m.Agent(), m.Disk())
	for kind := deliver; kind <= lose; kind++ {
		for _, n := range []uint64{1, 64, 1<<31 - 1, 1 << 31, 1 << 32, 1 << 33, 1 << 63, most} {
			codes(t, "what isn't there", m, of(kind, n), api.ErrNone)
			same(t, "what isn't there", tell(m.Agent(), m.Disk()), was)
		}
	}
	does(t, m, of(double, 0))
	pipe("doubled", 2)
	does(t, m, of(double, 1))
	pipe("doubled", 3)
	does(t, m, of(lose, 2))
	pipe("lost", 2)
	codes(t, "once more", m, of(lose, 2), api.ErrNone)
	does(t, m, of(deliver, 1))
	pipe("delivered, and answered", 2)
	owner, _ := m.Agent().Crew().Owner(on(82).Listeners[0].Place)
	is(t, "the child has the place", owner, 2)
	is(t, "Busy", m.Status().Busy, true)
	does(t, m, of(deliver, 1))
	is(t, "Busy", m.Status().Busy, false)
}

func TestConnections(t *testing.T) { // P30.2: the kinds 8 and 9
	m := fresh(t, 1)
	codes(t, "nobody's", m, comes(7, shared, "a.b", "/"), api.ErrOwner)
	m = serving(t, 1)
	does(t, m, of(tick, 20))
	is(t, "a connection", m.Do(comes(most, shared, "a.b", "/x")), machine.Answer{Who: 1, Conn: proxy.Conn{ID: most, Cluster: "web", Until: 120}})
	is(t, "another one", m.Do(comes(0, "127.0.0.1:81", "a.b", "/")), machine.Answer{Who: 1, Conn: proxy.Conn{Cluster: "web", Endpoint: 1, Until: 120}})
	codes(t, "twice", m, comes(0, shared, "a.b", "/"), api.ErrTwice)
	codes(t, "nobody's", m, comes(8, "127.0.0.1:82", "a.b", "/"), api.ErrOwner)
	codes(t, "of another host", m, comes(8, shared, "a.c", "/"), api.ErrNone)
	codes(t, "of no path", m, comes(8, shared, "a.b", ""), api.ErrNone)
	is(t, "Counts", m.Status().Counts, proxy.Counts{Accepted: 2, Refused: 2})
	was := tell(m.Agent(), m.Disk())
	for _, s := range []string{"", "x", "0.0.0.0:", "0.0.0.0", "0.0.0.0:0", "0.0.0.0:65536", "0.0.0.0:080", "256.0.0.0:80", shared + " ", " " + shared, finger.Text(api.Print{})} {
		codes(t, "no place: "+s, m, comes(0, s, "q", "q"), api.ErrForm)
		same(t, "no place: "+s, tell(m.Agent(), m.Disk()), was)
	}
	codes(t, "Close of none", m, of(shut, 7), api.ErrNone)
	codes(t, "Close of none", m, of(shut, 1<<32), api.ErrNone)
	does(t, m, of(shut, most), of(shut, 0))
	codes(t, "Close once more", m, of(shut, 0), api.ErrNone)
	is(t, "Counts", m.Status().Counts, proxy.Counts{Accepted: 2, Closed: 2, Refused: 2})
}

func TestClean(t *testing.T) { // P30.2: the kind 11
	m := serving(t, 1)
	does(t, m, offer(2, on(82)), of(died, 2))
	is(t, "held", m.Status().Held, 1)
	was := tell(m.Agent(), m.Disk())
	p := finger.Text(printOf(on(82)))
	for _, s := range []string{"", "x", p[1:], p + "0", strings.Repeat("G", 32), strings.Repeat("A", 32), shared} {
		codes(t, "no print: "+s, m, machine.Event{Kind: clean, Text: s}, api.ErrForm)
		same(t, "no print: "+s, tell(m.Agent(), m.Disk()), was)
	}
	does(t, m, cleared(on(83)))
	same(t, "another one's", tell(m.Agent(), m.Disk()), was)
	does(t, m, cleared(on(82)))
	is(t, "held", m.Status().Held, 0)
	is(t, "it starts", last(m), 1082)
}

func TestErrorsOfTheDisk(t *testing.T) { // P30.2: what the agent answers
	m := serving(t, 1)
	does(t, m, offer(2, on(82)))
	is(t, "Write", m.Disk().Write("others", strings.Repeat("x", api.MaxDisk-m.Disk().Used())), api.OK)
	codes(t, "no room", m, of(died, 2), api.ErrSpace)
	is(t, "it is gone none the less", m.Status().Gens, 2)
	is(t, "it is gone none the less", last(m), 1082)
	is(t, "Remove", m.Disk().Remove("others"), api.OK)
	does(t, m, of(fuse, 3))
	codes(t, "without power", m, of(died, 3), api.ErrPower)
	is(t, "Status", m.Status(), status.Status{Lost: api.ErrPower})
}

func TestStop(t *testing.T) { // P30.2: of others ErrStop, where it isn't up, ahead of what Text is
	m := serving(t, 1)
	does(t, m, offer(2, on(82)))
	stopped(t, m)
	refuses := func() {
		t.Helper()
		for kind := message; kind <= clean; kind++ {
			for _, s := range []string{"", "x", shared, finger.Text(api.Print{}), offer(3, on(83)).Text} {
				codes(t, "it isn't up", m, machine.Event{Kind: kind, Text: s, Host: "a.b", Path: "/"}, api.ErrStop)
			}
		}
	}
	was := tell(m.Agent(), m.Disk())
	is(t, "something goes out yet", len(was.out), 1)
	refuses()
	same(t, "it isn't up", tell(m.Agent(), m.Disk()), was)
	is(t, "Agent", m.Agent() != nil, true)
	codes(t, "a crash in booting", m, machine.Crash(0, []bool{true}, nil), api.ErrPower)
	is(t, "Agent", m.Agent() == nil, true)
	is(t, "Up", m.Up(), false)
	is(t, "Status", m.Status(), status.Status{Lost: api.ErrNil})
	refuses()
	codes(t, "a crash", m, machine.Crash(forever, nil, nil), api.OK)
	is(t, "Up", m.Up(), true)
	is(t, "it starts", last(m), 1082)
}

func TestFuse(t *testing.T) { // P30.2: the kind 12; and the chapter's word: above 2^31 - 1 none
	for n := range uint64(5) {
		m := serving(t, 1)
		does(t, m, of(fuse, 99), of(fuse, n))
		code := m.Do(offer(2, on(82))).Code
		is(t, "a Save of four steps", code == api.OK, n == 4)
		is(t, "Up", m.Up(), n == 4)
	}
	for _, n := range []uint64{1<<31 - 1, 1 << 31, 1 << 32, 1<<32 + 1, 1 << 63, most} {
		m := serving(t, 1)
		does(t, m, of(fuse, 0), of(fuse, n), offer(2, on(82)), of(died, 2))
	}
	m := serving(t, 1)
	stopped(t, m)
	does(t, m, of(fuse, 9)) // without power, too
	is(t, "Up", m.Up(), false)
	does(t, m, of(fuse, 0), machine.Crash(forever, nil, nil), of(tick, 0), offer(1, on(82)))
}

func TestCrash(t *testing.T) { // P30.2: the kind 13
	m := serving(t, 1)
	does(t, m, of(tick, 9), offer(2, on(82)))
	was := m.Agent()
	does(t, m, machine.Crash(forever, nil, nil))
	is(t, "is it another one", m.Agent() != was, true)
	is(t, "Status", m.Status(), status.Status{Busy: true, Gens: 1, Slots: 2})
	is(t, "it starts", last(m), 1082)
	does(t, m, of(tick, 0))
	takes(t, m, subscribe(1, 1082))
	e := machine.Crash(forever, nil, nil)
	e.Text, e.Host, e.Path = "x", "y", "z" // which tell nothing
	does(t, m, e)
	is(t, "Up", m.Up(), true)
	did := m.Disk().Steps()
	codes(t, "with a fuse then", m, machine.Crash(2, nil, nil), api.OK)
	is(t, "steps of booting", m.Disk().Steps(), did)
	does(t, m, of(tick, 0))
	codes(t, "the fuse", m, offer(1, on(83)), api.ErrPower)
	is(t, "the fuse", m.Disk().Steps(), did+2)
}

func TestCrashTellsWhatSurvives(t *testing.T) { // P30.2, and the document's fifth example
	for _, x := range []struct {
		names   []bool
		sectors []uint64
		text    string
		code    api.Errno
	}{
		{nil, nil, "", api.ErrNone},
		{[]bool{false}, []uint64{most}, "", api.ErrNone},
		{[]bool{true}, nil, "", api.OK},
		{[]bool{true}, []uint64{0, most}, "", api.OK},
		{[]bool{true, true}, []uint64{most}, strings.Repeat("x", 200), api.OK},
		{[]bool{true}, []uint64{1<<63 + 2}, strings.Repeat("\x00", 64) + strings.Repeat("x", 64) + strings.Repeat("\x00", 72), api.OK},
	} {
		m := fresh(t, 1)
		is(t, "Write", m.Disk().Write("a", strings.Repeat("x", 200)), api.OK)
		does(t, m, machine.Crash(forever, x.names, x.sectors))
		s, e := m.Disk().Read("a")
		is(t, "what survives", s, x.text)
		is(t, "what survives", e, x.code)
	}
}

func TestCrashOfWhatIsBroken(t *testing.T) { // P30.2: the error of booting
	m := serving(t, 1)
	d := m.Disk()
	is(t, "a broken ledger", d.Write("led", "x")+d.Sync("led")+d.SyncDir(), api.OK)
	for range 3 {
		codes(t, "a broken ledger", m, machine.Crash(forever, nil, nil), api.ErrBroken)
		is(t, "Agent", m.Agent() == nil, true)
		is(t, "Disk", m.Disk() == d, true)
		is(t, "Up", m.Up(), false)
		codes(t, "it isn't up", m, of(tick, 1), api.ErrStop)
		does(t, m, of(fuse, most))
	}
	is(t, "Remove", d.Remove("led")+d.SyncDir(), api.OK)
	does(t, m, machine.Crash(forever, nil, nil))
	is(t, "it starts", last(m), 1081)
}

func TestWhatIsHandedInStays(t *testing.T) { // the rule on memory
	m := fresh(t, 1)
	does(t, m, of(tick, 0))
	raw, names, sectors := []byte(offer(1, on(81)).Text), []bool{true, false, true, false}, []uint64{1, most, 2, 3}
	does(t, m, text(unsafe.String(&raw[0], len(raw))))
	is(t, "the text", string(raw), offer(1, on(81)).Text)
	clear(raw)
	is(t, "it is kept", last(m), 1081)
	e := machine.Event{Kind: crash, N: forever, Names: names[:2], Sectors: sectors[:2]}
	is(t, "Write", m.Disk().Write("a", "x"), api.OK)
	does(t, m, e)
	lists(t, "Names", names, true, false, true, false)
	lists(t, "Sectors", sectors, 1, most, 2, 3)
	does(t, m, of(ready, 1))
	at, host, path := []byte(shared), []byte("a.b"), []byte("/")
	x := m.Do(comes(7, unsafe.String(&at[0], len(at)), unsafe.String(&host[0], len(host)), unsafe.String(&path[0], len(path))))
	clear(at)
	clear(host)
	clear(path)
	is(t, "the connection", x.Conn, proxy.Conn{ID: 7, Cluster: "web", Until: 100})
	is(t, "the connection", m.Agent().Crew().Gens()[0].Conns()[0], x.Conn)
}
