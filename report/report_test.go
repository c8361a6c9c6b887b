package report_test

import (
	"math"
	"slices"
	"strconv"
	"strings"
	"testing"
	"unsafe"

	"outrider/api"
	"outrider/config"
	"outrider/crew"
	"outrider/ledger"
	"outrider/proxy"
	"outrider/report"
	"outrider/spot"
)

func TestPlain(t *testing.T) { // P32.1; the example: of a blank ?
	is(t, "Plain of a blank", report.Plain(" "), "?")
	is(t, "Plain of no bytes", report.Plain(""), "-")
	is(t, "Plain of a -", report.Plain("-"), "-")
	for n := range 256 {
		s := string([]byte{byte(n)})
		wanted := s
		if n < 33 || n > 126 {
			wanted = "?"
		}
		is(t, "Plain of the byte "+strconv.Itoa(n), report.Plain(s), wanted)
		is(t, "Plain of it between others", report.Plain("a"+s+"~"+s), "a"+wanted+"~"+wanted)
	}
	is(t, "Plain of letters of two bytes", report.Plain("aäb\u20ac"), "a??b???")
	is(t, "Plain of no letters", report.Plain("\xff\xfe\x00\n\r\t\x7f"), "???????")
	is(t, "Plain of much", report.Plain(strings.Repeat("x ", 1<<20)), strings.Repeat("x?", 1<<20))
}

func TestMemory(t *testing.T) { // the rule on memory
	raw := []byte("main host")
	s := unsafe.String(&raw[0], len(raw))
	plain := report.Plain(s[:4])
	listener, route := report.Listener(config.Listener{Name: s}), report.Route(config.Route{Host: s, Path: s, Cluster: s})
	cluster, whole := report.Cluster(config.Cluster{Name: s}), report.Whole([]string{s})
	is(t, "what was handed in", string(raw), "main host")
	clear(raw)
	is(t, "Plain", plain, "main")
	is(t, "Listener", listener, "listener main?host 0.0.0.0:0")
	is(t, "Route", route, "route main?host main?host main?host 0")
	is(t, "Cluster", cluster, "cluster main?host")
	is(t, "Whole", whole, "main host\n")
	lines := []string{"a", "b", "c"}
	is(t, "Whole of a part", report.Whole(lines[:2]), "a\nb\n")
	lists(t, "the spare room", lines, "a", "b", "c")
	entries := []ledger.Entry{{Deaths: 1}, {Deaths: 2}}
	got := report.Ledger(entries)
	clear(got)
	lists(t, "the entries", entries, ledger.Entry{Deaths: 1}, ledger.Entry{Deaths: 2})
	c := crew.New(1)
	clear(report.Crew(c))
	lists(t, "Crew once more", report.Crew(c), "crew 0 idle 0")
}

func TestListener(t *testing.T) { // P32.1
	for wanted, l := range map[string]config.Listener{
		"listener main 0.0.0.0:80":               {Name: "main", Place: spot.Place{Port: 80}},
		"listener a-b_9 255.0.10.200:65535":      {Name: "a-b_9", Place: spot.Place{IP: [4]byte{255, 0, 10, 200}, Port: 65535}},
		"listener - 0.0.0.0:0":                   {},
		"listener a?b?c? 1.2.3.4:5":              {Name: "a b\nc\xff", Place: spot.Place{IP: [4]byte{1, 2, 3, 4}, Port: 5}},
		"listener routes 127.0.0.1:80":           {Name: "routes", Place: place(80), Routes: on(80).Listeners[0].Routes},
		"listener " + long("x") + " 0.0.0.0:443": {Name: long("x"), Place: spot.Place{Port: 443}},
	} {
		is(t, "Listener", report.Listener(l), wanted)
	}
}

// long: more than may be of a name, a host, a path.
func long(s string) string { return strings.Repeat(s, 1000) }

func TestRoute(t *testing.T) { // P32.1
	for wanted, r := range map[string]config.Route{
		"route a.b / web 0":                             {Host: "a.b", Path: "/", Cluster: "web"},
		"route *.a.b /x/y?z=1&~ web 90":                 {Host: "*.a.b", Path: "/x/y?z=1&~", Cluster: "web", Idle: 90},
		"route - - - 0":                                 {},
		"route - - - 18446744073709551615":              {Idle: most},
		"route ? - - 1":                                 {Host: " ", Idle: 1},
		"route - ? - 1":                                 {Path: "\n", Idle: 1},
		"route - - ? 1":                                 {Cluster: "\x7f", Idle: 1},
		"route a?b /?? c?d 1":                           {Host: "a b", Path: "/\xc3\xa4", Cluster: "c\td", Idle: 1},
		"route " + long("h") + " / " + long("c") + " 0": {Host: long("h"), Path: "/", Cluster: long("c")},
	} {
		is(t, "Route", report.Route(r), wanted)
	}
}

func TestCluster(t *testing.T) { // P32.1
	for _, x := range []struct {
		wanted string
		c      config.Cluster
	}{
		{"cluster web 10.0.0.0:8080=1", config.Cluster{Name: "web", Endpoints: []config.Endpoint{{Place: spot.Place{IP: [4]byte{10}, Port: 8080}, Weight: 1}}}},
		{"cluster web 10.0.0.0:8080=100 1.2.3.4:5=7 127.0.0.1:1=2", config.Cluster{Name: "web", Endpoints: []config.Endpoint{
			{Place: spot.Place{IP: [4]byte{10}, Port: 8080}, Weight: 100}, {Place: spot.Place{IP: [4]byte{1, 2, 3, 4}, Port: 5}, Weight: 7}, {Place: place(1), Weight: 2}}}},
		{"cluster none", config.Cluster{Name: "none"}},
		{"cluster -", config.Cluster{}},
		{"cluster a?b? 0.0.0.0:0=0", config.Cluster{Name: "a b\n", Endpoints: []config.Endpoint{{}}}},
		{"cluster x 127.0.0.1:1=-7", config.Cluster{Name: "x", Endpoints: []config.Endpoint{{Place: place(1), Weight: -7}}}},
		{"cluster x 127.0.0.1:1=9223372036854775807 127.0.0.1:1=-9223372036854775808", config.Cluster{Name: "x", Endpoints: []config.Endpoint{{Place: place(1), Weight: math.MaxInt}, {Place: place(1), Weight: math.MinInt}}}},
	} {
		is(t, "Cluster", report.Cluster(x.c), x.wanted)
	}
}

func TestConfig(t *testing.T) { // P32.1
	lists(t, "Config of none", report.Config(config.Config{}), "config 0")
	lists(t, "Config of a great version", report.Config(config.Config{Version: most}), "config 18446744073709551615")
	lists(t, "Config", report.Config(on(80, 81)), "config 4",
		"listener l0 127.0.0.1:80", "route a.b / web 10",
		"listener l1 127.0.0.1:81", "route a.b / web 10",
		"cluster web 127.0.0.1:8080=1")
	c := config.Config{
		Version: 9,
		Listeners: []config.Listener{
			{Name: "z", Place: place(2), Routes: []config.Route{{Host: "q", Path: "/q", Cluster: "y", Idle: 1}, {Host: "b", Path: "/b", Cluster: "x", Idle: 2}, {Host: "b", Path: "/b", Cluster: "x", Idle: 2}}},
			{Name: "b", Place: place(1)},
			{Name: "", Place: place(1), Routes: []config.Route{{}}},
		},
		Clusters: []config.Cluster{{Name: "y"}, {Name: "a b", Endpoints: []config.Endpoint{{Place: place(7), Weight: 3}}}},
	}
	lists(t, "Config that isn't fine, in its own order", report.Config(c), "config 9",
		"listener z 127.0.0.1:2", "route q /q y 1", "route b /b x 2", "route b /b x 2",
		"listener b 127.0.0.1:1",
		"listener - 127.0.0.1:1", "route - - - 0",
		"cluster y", "cluster a?b 127.0.0.1:7=3")
	lists(t, "Config of clusters alone", report.Config(config.Config{Version: 1, Clusters: c.Clusters}), "config 1", "cluster y", "cluster a?b 127.0.0.1:7=3")
	many := config.Config{Listeners: make([]config.Listener, 1000), Clusters: make([]config.Cluster, 1000)}
	is(t, "Config of more than there may be", len(report.Config(many)), 2001)
}

func TestGen(t *testing.T) { // P32.2
	c := on(80, 81, 82)
	p := text(t, c)
	g := gen(t, 7, c)
	is(t, "one that starts", report.Gen(g), "7 starting "+p+" 0 0 0")
	g = g.Turn(proxy.Ready)
	is(t, "one that is ready", report.Gen(g), "7 ready "+p+" 0 0 0")
	for port := uint16(80); port < 83; port++ {
		g, _ = g.Own(place(port))
	}
	is(t, "its places", report.Gen(g), "7 ready "+p+" 3 0 0")
	for id := range uint64(5) {
		g, _, _ = g.Accept(place(80), id, "a.b", "/", 0)
	}
	is(t, "its connections", report.Gen(g), "7 ready "+p+" 3 5 5")
	g, _, e := g.Accept(place(80), 9, "q", "/", 0)
	is(t, "one that is refused", e, api.ErrNone)
	is(t, "one that is refused", report.Gen(g), "7 ready "+p+" 3 5 5")
	g, _ = g.Close(2)
	is(t, "one that is closed", report.Gen(g), "7 ready "+p+" 3 4 5")
	is(t, "one that drains", report.Gen(g.Turn(proxy.Draining)), "7 draining "+p+" 0 4 5")
	is(t, "one that is dead", report.Gen(g.Turn(proxy.Dead)), "7 dead "+p+" 0 0 5")
	g, _ = g.Release(place(81))
	is(t, "a place less", report.Gen(g), "7 ready "+p+" 2 4 5")
	is(t, "a great number", report.Gen(gen(t, most, on())), "18446744073709551615 starting "+text(t, on())+" 0 0 0")
	is(t, "the zero one", report.Gen(proxy.Gen{}), "0 ? "+strings.Repeat("0", 32)+" 0 0 0")
	for _, state := range []int{0, -1, 5, 256, math.MaxInt, math.MinInt} {
		is(t, "another state", report.Gen(g.Turn(state)), "7 ? "+p+" 2 4 5")
	}
}

func TestCrew(t *testing.T) { // P32.2
	x, y := on(80, 81), on(81, 82, 83)
	p, q := text(t, x), text(t, y)
	c := crew.New(5)
	lists(t, "nobody", report.Crew(c), "crew 0 idle 0")
	lists(t, "the zero one", report.Crew(crew.Crew{}), "crew 0 idle 0")
	c = start(t, c, x)
	lists(t, "one starts", report.Crew(c), "crew 0 busy 0", "1 starting "+p+" 0 0 0")
	c = ready(t, c, 1)
	lists(t, "it serves", report.Crew(c), "crew 0 idle 0", "1 ready "+p+" 2 0 0")
	c = comes(t, c, 80, 7, "a.b", api.OK)
	c = comes(t, c, 81, 8, "a.b", api.OK)
	c = comes(t, c, 81, 9, "q", api.ErrNone)
	lists(t, "connections", report.Crew(c), "crew 0 idle 0", "1 ready "+p+" 2 2 2")
	c = start(t, c, y)
	lists(t, "another one starts", report.Crew(c), "crew 0 busy 0", "1 ready "+p+" 2 2 2", "2 starting "+q+" 0 0 0")
	c = ready(t, c, 2)
	lists(t, "a handoff", report.Crew(c), "crew 1 busy 1", "1 ready "+p+" 0 2 2", "2 ready "+q+" 2 0 0")
	doubled, e := c.Double(0)
	is(t, "Double", e, api.OK)
	lists(t, "more on the pipe", report.Crew(doubled), "crew 1 busy 2", "1 ready "+p+" 0 2 2", "2 ready "+q+" 2 0 0")
	c = delivered(t, c)
	lists(t, "a token is taken", report.Crew(c), "crew 1 busy 1", "1 ready "+p+" 0 2 2", "2 ready "+q+" 3 0 0")
	c = delivered(t, c)
	lists(t, "its end", report.Crew(c), "crew 1 idle 0", "1 draining "+p+" 0 2 2", "2 ready "+q+" 3 0 0")
	c = comes(t, c, 82, 5, "a.b", api.OK)
	c, e = c.Close(7)
	is(t, "Close", e, api.OK)
	lists(t, "a connection less", report.Crew(c), "crew 1 idle 0", "1 draining "+p+" 0 1 2", "2 ready "+q+" 3 1 1")
	c = c.Tick(5)
	lists(t, "the deadline", report.Crew(c), "crew 1 idle 0", "2 ready "+q+" 3 1 1")
	c = ready(t, start(t, c, x), 3)
	lists(t, "the next handoff", report.Crew(c), "crew 2 busy 1", "2 ready "+q+" 0 1 1", "3 ready "+p+" 1 0 0")
	c, e = c.Died(3)
	is(t, "Died", e, api.OK)
	lists(t, "it is broken off", report.Crew(c), "crew 2 idle 0", "2 ready "+q+" 3 1 1")
}

func TestLedger(t *testing.T) { // P32.2
	lists(t, "no entries", report.Ledger(nil))
	lists(t, "entries", report.Ledger([]ledger.Entry{
		{Print: api.Print{1}, Deaths: 2, Held: true},
		{Print: api.Print{0xab, 15: 0xcd}, Deaths: 255},
		{},
		{Held: true},
		{Deaths: math.MaxInt},
		{Deaths: -3},
	}),
		"01000000000000000000000000000000 2 held",
		"ab0000000000000000000000000000cd 255 free",
		"00000000000000000000000000000000 0 free",
		"00000000000000000000000000000000 0 held",
		"00000000000000000000000000000000 9223372036854775807 free",
		"00000000000000000000000000000000 -3 free")
	var l ledger.Ledger
	l, _ = l.Died(api.Print{9}, 2)
	l, _ = l.Died(api.Print{9}, 2)
	l, _ = l.Died(api.Print{3}, 2)
	lists(t, "of a ledger", report.Ledger(l.All()), "03000000000000000000000000000000 1 free", "09000000000000000000000000000000 2 held")
}

func TestWhole(t *testing.T) { // P32.2: the lines, a byte 10 behind each
	is(t, "no lines", report.Whole(nil), "")
	is(t, "no lines", report.Whole([]string{}), "")
	is(t, "an empty one", report.Whole([]string{""}), "\n")
	is(t, "one", report.Whole([]string{"a b"}), "a b\n")
	is(t, "some", report.Whole([]string{"b", "", "a", "a\n", "\xff"}), "b\n\na\na\n\n\xff\n")
	is(t, "a crew's", report.Whole(report.Crew(crew.New(1))), "crew 0 idle 0\n")
	is(t, "a config's", report.Whole(report.Config(on(80))), "config 4\nlistener l0 127.0.0.1:80\nroute a.b / web 10\ncluster web 127.0.0.1:8080=1\n")
	is(t, "many", report.Whole(slices.Repeat([]string{"x"}, 1<<20)), strings.Repeat("x\n", 1<<20))
}
