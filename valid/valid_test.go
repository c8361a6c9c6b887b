package valid_test

import (
	"math"
	"math/rand"
	"reflect"
	"slices"
	"strings"
	"testing"

	"outrider/api"
	"outrider/config"
	"outrider/spot"
	"outrider/valid"
)

func place(a, b, c, d byte, port uint16) spot.Place {
	return spot.Place{IP: [4]byte{a, b, c, d}, Port: port}
}

// sample: a config that is fine, in new memory.
func sample() config.Config {
	return config.Config{
		Version: 4,
		Listeners: []config.Listener{
			{Name: "main", Place: place(127, 0, 0, 1, 80), Routes: []config.Route{
				{Host: "a.b", Path: "/", Cluster: "web", Idle: 5},
				{Host: "*.b", Path: "/", Cluster: "web"},
				{Host: "a.b", Path: "/x", Cluster: "db", Idle: math.MaxUint64},
			}},
			{Name: "side", Place: place(127, 0, 0, 2, 80), Routes: []config.Route{{Host: "a.b", Path: "/", Cluster: "web"}}},
			{Name: "rest", Place: place(0, 0, 0, 0, 81), Routes: []config.Route{{Host: "c", Path: "/", Cluster: "db"}}},
		},
		Clusters: []config.Cluster{
			{Name: "web", Endpoints: []config.Endpoint{{Place: place(10, 0, 0, 1, 80), Weight: 1}, {Place: place(10, 0, 0, 1, 81), Weight: 100}, {Place: place(10, 0, 0, 2, 80), Weight: 50}}},
			{Name: "db", Endpoints: []config.Endpoint{{Place: place(10, 0, 0, 1, 80), Weight: 7}}},
		},
	}
}

// full: a config that is fine, with as many of all as may be.
func full() config.Config {
	var c config.Config
	for i := range 8 {
		name := string(rune('a' + i))
		l := config.Listener{Name: name, Place: place(byte(i+1), 0, 0, 0, 1)}
		x := config.Cluster{Name: name}
		for k := range 8 {
			l.Routes = append(l.Routes, config.Route{Host: "h", Path: "/" + strings.Repeat("x", k), Cluster: name})
			x.Endpoints = append(x.Endpoints, config.Endpoint{Place: place(1, 0, 0, byte(k), 65535), Weight: 100 - k})
		}
		c.Listeners = append(c.Listeners, l)
		c.Clusters = append(c.Clusters, x)
	}
	return c
}

func fault(e api.Errno, where string) valid.Fault { return valid.Fault{Code: e, Where: where} }

// checked holds all three calls against what is wrong with a config.
func checked(t *testing.T, what string, c config.Config, wanted ...valid.Fault) {
	t.Helper()
	if got := valid.All(c); !slices.Equal(got, wanted) {
		t.Errorf("All of %s: %v, wanted %v", what, got, wanted)
	}
	var first valid.Fault
	if len(wanted) > 0 {
		first = wanted[0]
	}
	if got := valid.Check(c); got != first {
		t.Errorf("Check of %s: %v, wanted %v", what, got, first)
	}
	if got := valid.Fine(c); got != (len(wanted) == 0) {
		t.Errorf("Fine of %s: %v", what, got)
	}
}

func TestFine(t *testing.T) { // P10.1
	checked(t, "the empty config", config.Config{})
	checked(t, "empty lists", config.Config{Version: math.MaxUint64, Listeners: []config.Listener{}, Clusters: []config.Cluster{}})
	checked(t, "the sample", sample())
	checked(t, "the full one", full())
	c := sample()
	c.Listeners = nil
	checked(t, "clusters alone", c)
}

// change is what is done to a fine config, and what is wrong with it then.
type change struct {
	what   string
	make   func(c *config.Config)
	wanted []valid.Fault
}

func tell(t *testing.T, changes []change) {
	t.Helper()
	for _, x := range changes {
		c := sample()
		x.make(&c)
		checked(t, x.what, c, x.wanted...)
	}
}

func one(e api.Errno, where string) []valid.Fault { return []valid.Fault{fault(e, where)} }

func TestConfig(t *testing.T) { // P10.1: layer 9's error, and nothing else
	many, ranged, long := one(api.ErrMany, "config"), one(api.ErrRange, "config"), one(api.ErrLong, "config")
	tell(t, []change{
		{"9 listeners", func(c *config.Config) { c.Listeners = make([]config.Listener, 9) }, many},
		{"9 clusters", func(c *config.Config) { c.Clusters = make([]config.Cluster, 9) }, many},
		{"9 routes", func(c *config.Config) { c.Listeners[1].Routes = make([]config.Route, 9) }, many},
		{"9 endpoints", func(c *config.Config) { c.Clusters[1].Endpoints = make([]config.Endpoint, 9) }, many},
		{"a million listeners", func(c *config.Config) { c.Listeners = make([]config.Listener, 1<<20) }, many},
		{"a weight below 0", func(c *config.Config) { c.Clusters[1].Endpoints[0].Weight = -1; c.Listeners[0].Name = "" }, ranged},
		{"the least weight", func(c *config.Config) { c.Clusters[0].Endpoints[0] = config.Endpoint{Weight: math.MinInt} }, ranged},
		{"a long name", func(c *config.Config) { c.Listeners[0].Name = strings.Repeat("x", 8192) }, long},
		{"a long host", func(c *config.Config) { c.Listeners[1].Routes[0].Host = strings.Repeat("x", 9000) }, long},
		{"many and below 0", func(c *config.Config) {
			c.Clusters[0].Endpoints[0].Weight = -1
			c.Listeners = make([]config.Listener, 9)
		}, many},
		{"long and below 0", func(c *config.Config) {
			c.Clusters[0].Endpoints[0].Weight = -1
			c.Listeners[0].Name = strings.Repeat("x", 9000)
		}, ranged},
	})
}

func TestListener(t *testing.T) { // P10.1
	form, twice, none := one(api.ErrForm, "listener 0"), one(api.ErrTwice, "listener 1"), one(api.ErrNone, "listener 1")
	tell(t, []change{
		{"no name", func(c *config.Config) { c.Listeners[0].Name = "" }, form},
		{"a name of 33", func(c *config.Config) { c.Listeners[0].Name = strings.Repeat("x", 33) }, form},
		{"a name of 32", func(c *config.Config) { c.Listeners[0].Name = strings.Repeat("x", 32) }, nil},
		{"a great letter", func(c *config.Config) { c.Listeners[0].Name = "Main" }, form},
		{"a digit first", func(c *config.Config) { c.Listeners[0].Name = "1a" }, form},
		{"a name twice", func(c *config.Config) { c.Listeners[1].Name = "main" }, twice},
		{"a name twice, the last of which", func(c *config.Config) { c.Listeners[2].Name = "main" }, one(api.ErrTwice, "listener 2")},
		{"a cluster's name", func(c *config.Config) { c.Listeners[0].Name = "web" }, nil},
		{"a name that is none twice", func(c *config.Config) { c.Listeners[1].Name, c.Listeners[2].Name = "", "" }, []valid.Fault{fault(api.ErrForm, "listener 1"), fault(api.ErrForm, "listener 2")}},
		{"the port 0", func(c *config.Config) { c.Listeners[2].Place.Port = 0 }, one(api.ErrRange, "listener 2")},
		{"the port 0 twice", func(c *config.Config) { c.Listeners[0].Place.Port, c.Listeners[2].Place.Port = 0, 0 }, []valid.Fault{fault(api.ErrRange, "listener 0"), fault(api.ErrRange, "listener 2")}},
		{"one place", func(c *config.Config) { c.Listeners[1].Place = c.Listeners[0].Place }, one(api.ErrThere, "listener 1")},
		{"any place behind", func(c *config.Config) { c.Listeners[2].Place.Port = 80 }, one(api.ErrThere, "listener 2")},
		{"any place ahead", func(c *config.Config) { c.Listeners[0].Place = place(0, 0, 0, 0, 80) }, one(api.ErrThere, "listener 1")},
		{"any place ahead of two", func(c *config.Config) {
			c.Listeners[0].Place, c.Listeners[2].Place = place(0, 0, 0, 0, 80), place(1, 1, 1, 1, 80)
		}, []valid.Fault{fault(api.ErrThere, "listener 1"), fault(api.ErrThere, "listener 2")}},
		{"an endpoint's place", func(c *config.Config) { c.Listeners[0].Place = place(10, 0, 0, 1, 80) }, nil},
		{"no routes", func(c *config.Config) { c.Listeners[1].Routes = nil }, none},
		{"an empty list of routes", func(c *config.Config) { c.Listeners[1].Routes = []config.Route{} }, none},
	})
}

func TestListenerFirst(t *testing.T) { // P10.1: of several faults of one listener the first, whichever others there are
	faults := []struct {
		e    api.Errno
		make func(c *config.Config)
	}{
		{api.ErrForm, func(c *config.Config) { c.Listeners[2].Name = "?" }},
		{api.ErrTwice, func(c *config.Config) { c.Listeners[2].Name = "side" }},
		{api.ErrRange, func(c *config.Config) { c.Listeners[2].Place.Port = 0 }},
		{api.ErrThere, func(c *config.Config) { c.Listeners[2].Place = c.Listeners[0].Place }},
		{api.ErrNone, func(c *config.Config) { c.Listeners[2].Routes = nil }},
	}
	for i, f := range faults {
		c := sample()
		for k := len(faults) - 1; k >= i; k-- { // the first last, since some undo others
			faults[k].make(&c)
		}
		checked(t, "a listener of which "+f.e.Error()+" is first", c, fault(f.e, "listener 2"))
	}
}

func TestRoute(t *testing.T) { // P10.1
	host := func(s string) func(c *config.Config) {
		return func(c *config.Config) { c.Listeners[0].Routes[1].Host = s }
	}
	path := func(s string) func(c *config.Config) {
		return func(c *config.Config) { c.Listeners[0].Routes[1].Path = s }
	}
	of := func(e api.Errno) []valid.Fault { return one(e, "route 0 1") }
	tell(t, []change{
		{"no host", host(""), of(api.ErrShort)},
		{"a host of 65", host(strings.Repeat("ab.", 21) + "ab"), of(api.ErrLong)},
		{"a host of 64", host(strings.Repeat("ab.", 21) + "a"), nil},
		{"a star alone", host("*"), of(api.ErrForm)},
		{"a great letter", host("*.B"), of(api.ErrForm)},
		{"an empty part", host("a..b"), of(api.ErrForm)},
		{"no path", path(""), of(api.ErrForm)},
		{"no / first", path("x"), of(api.ErrForm)},
		{"two / together", path("/x//y"), of(api.ErrForm)},
		{"a path of 129", path("/" + strings.Repeat("x", 128)), of(api.ErrLong)},
		{"a path of 128", path("/" + strings.Repeat("x", 127)), nil},
		{"another cluster", func(c *config.Config) { c.Listeners[0].Routes[1].Cluster = "wed" }, of(api.ErrNone)},
		{"no cluster's name", func(c *config.Config) { c.Listeners[0].Routes[1].Cluster = "" }, of(api.ErrNone)},
		{"a listener's name", func(c *config.Config) { c.Listeners[0].Routes[1].Cluster = "main" }, of(api.ErrNone)},
		{"no clusters", func(c *config.Config) { c.Clusters, c.Listeners = nil, c.Listeners[1:] }, []valid.Fault{fault(api.ErrNone, "route 0 0"), fault(api.ErrNone, "route 1 0")}},
		{"a route twice", host("a.b"), of(api.ErrTwice)},
		{"a route twice, to another cluster", func(c *config.Config) { c.Listeners[0].Routes[2].Path = "/" }, one(api.ErrTwice, "route 0 2")},
		{"a route twice, behind another", func(c *config.Config) { c.Listeners[0].Routes[2] = c.Listeners[0].Routes[1] }, one(api.ErrTwice, "route 0 2")},
		{"a path with a / more", func(c *config.Config) { c.Listeners[0].Routes[2].Host, c.Listeners[0].Routes[2].Path = "*.b", "/x/" }, nil},
		{"a path of another letter", func(c *config.Config) { c.Listeners[0].Routes[1].Host, c.Listeners[0].Routes[1].Path = "a.b", "/X" }, nil},
		{"a route of another listener", func(c *config.Config) { c.Listeners[1].Routes[0] = c.Listeners[0].Routes[2] }, nil},
		{"a route ahead whose host is no host", func(c *config.Config) { c.Listeners[0].Routes[0].Host, c.Listeners[0].Routes[1].Host = "A.b", "a.b" }, []valid.Fault{fault(api.ErrForm, "route 0 0"), fault(api.ErrTwice, "route 0 1")}},
		{"a route behind whose host is no host", func(c *config.Config) { c.Listeners[0].Routes[1].Host = "A.b" }, of(api.ErrForm)},
		{"a route ahead that leads nowhere", func(c *config.Config) {
			c.Listeners[0].Routes[0].Cluster, c.Listeners[0].Routes[1].Host = "none", "a.b"
		}, []valid.Fault{fault(api.ErrNone, "route 0 0"), fault(api.ErrTwice, "route 0 1")}},
	})
}

func TestRouteFirst(t *testing.T) { // P10.1: of several faults of one route the first
	tell(t, []change{
		{"a host, a path, a cluster that are none", func(c *config.Config) { c.Listeners[1].Routes[0] = config.Route{} }, one(api.ErrShort, "route 1 0")},
		{"a long host, and no path", func(c *config.Config) { c.Listeners[1].Routes[0] = config.Route{Host: strings.Repeat("a", 65)} }, one(api.ErrLong, "route 1 0")},
		{"a path and a cluster that are none", func(c *config.Config) { c.Listeners[1].Routes[0] = config.Route{Host: "a"} }, one(api.ErrForm, "route 1 0")},
		{"a long path, and no cluster", func(c *config.Config) {
			c.Listeners[1].Routes[0] = config.Route{Host: "a", Path: "/" + strings.Repeat("x", 200)}
		}, one(api.ErrLong, "route 1 0")},
		{"no cluster, and twice", func(c *config.Config) { c.Listeners[0].Routes[1] = config.Route{Host: "a.b", Path: "/"} }, one(api.ErrNone, "route 0 1")},
		{"twice, no path", func(c *config.Config) {
			c.Listeners[0].Routes[0].Path = ""
			c.Listeners[0].Routes[1] = c.Listeners[0].Routes[0]
		}, []valid.Fault{fault(api.ErrForm, "route 0 0"), fault(api.ErrForm, "route 0 1")}},
	})
}

func TestCluster(t *testing.T) { // P10.1
	nowhere := fault(api.ErrNone, "route 0 0")
	tell(t, []change{
		{"no name", func(c *config.Config) { c.Clusters[1].Name = "" }, []valid.Fault{fault(api.ErrNone, "route 0 2"), fault(api.ErrNone, "route 2 0"), fault(api.ErrForm, "cluster 1")}},
		{"a name that is none, and routes to it", func(c *config.Config) {
			c.Clusters[1].Name, c.Listeners[0].Routes[2].Cluster, c.Listeners[2].Routes[0].Cluster = "-", "-", "-"
		}, one(api.ErrForm, "cluster 1")},
		{"no name, and routes to it", func(c *config.Config) {
			c.Clusters[1].Name, c.Listeners[0].Routes[2].Cluster, c.Listeners[2].Routes[0].Cluster = "", "", ""
		}, one(api.ErrForm, "cluster 1")},
		{"a name twice", func(c *config.Config) { c.Clusters = append(c.Clusters, c.Clusters[0]) }, one(api.ErrTwice, "cluster 2")},
		{"a name thrice", func(c *config.Config) { c.Clusters = append(c.Clusters, c.Clusters[0], c.Clusters[0]) }, []valid.Fault{fault(api.ErrTwice, "cluster 2"), fault(api.ErrTwice, "cluster 3")}},
		{"no endpoints", func(c *config.Config) { c.Clusters[0].Endpoints = nil }, one(api.ErrNone, "cluster 0")},
		{"an empty list of endpoints", func(c *config.Config) { c.Clusters[1].Endpoints = []config.Endpoint{} }, one(api.ErrNone, "cluster 1")},
		{"a listener's name", func(c *config.Config) { c.Clusters = append(c.Clusters, c.Clusters[0]); c.Clusters[2].Name = "main" }, nil},
		{"nothing of it", func(c *config.Config) { c.Clusters = append(c.Clusters, config.Cluster{}) }, one(api.ErrForm, "cluster 2")},
		{"a name twice, no endpoints", func(c *config.Config) { c.Clusters = append(c.Clusters, config.Cluster{Name: "db"}) }, one(api.ErrTwice, "cluster 2")},
		{"a name that is none twice", func(c *config.Config) {
			c.Clusters[0].Name, c.Clusters[1].Name = "?", "?"
			c.Listeners = c.Listeners[:1]
			c.Listeners[0].Routes = c.Listeners[0].Routes[:1]
		}, []valid.Fault{nowhere, fault(api.ErrForm, "cluster 0"), fault(api.ErrForm, "cluster 1")}},
	})
}

func TestEndpoint(t *testing.T) { // P10.1
	ranged, twice := one(api.ErrRange, "endpoint 0 1"), one(api.ErrTwice, "endpoint 0 1")
	second := func(change func(p *config.Endpoint)) func(c *config.Config) {
		return func(c *config.Config) { change(&c.Clusters[0].Endpoints[1]) }
	}
	tell(t, []change{
		{"the port 0", second(func(p *config.Endpoint) { p.Place.Port = 0 }), ranged},
		{"any place", second(func(p *config.Endpoint) { p.Place.IP = [4]byte{} }), ranged},
		{"nearly any place", second(func(p *config.Endpoint) { p.Place.IP = [4]byte{0, 0, 0, 1} }), nil},
		{"the weight 0", second(func(p *config.Endpoint) { p.Weight = 0 }), ranged},
		{"the weight 1", second(func(p *config.Endpoint) { p.Weight = 1 }), nil},
		{"the weight 100", second(func(p *config.Endpoint) { p.Weight = 100 }), nil},
		{"the weight 101", second(func(p *config.Endpoint) { p.Weight = 101 }), ranged},
		{"the greatest weight", second(func(p *config.Endpoint) { p.Weight = math.MaxInt }), ranged},
		{"nothing of it", second(func(p *config.Endpoint) { *p = config.Endpoint{} }), ranged},
		{"a place twice", second(func(p *config.Endpoint) { p.Place.Port = 80 }), twice},
		{"a place twice, and the weight 0", second(func(p *config.Endpoint) { p.Place.Port, p.Weight = 80, 0 }), ranged},
		{"a place behind twice", func(c *config.Config) { c.Clusters[0].Endpoints[2].Place = c.Clusters[0].Endpoints[1].Place }, one(api.ErrTwice, "endpoint 0 2")},
		{"a place of another cluster", func(c *config.Config) { c.Clusters[1].Endpoints[0].Place = c.Clusters[0].Endpoints[2].Place }, nil},
		{"a place of a listener", second(func(p *config.Endpoint) { p.Place = place(127, 0, 0, 1, 80) }), nil},
		{"a place that is out of range ahead", func(c *config.Config) {
			c.Clusters[0].Endpoints[0].Weight = 0
			c.Clusters[0].Endpoints[1].Place = c.Clusters[0].Endpoints[0].Place
		}, []valid.Fault{fault(api.ErrRange, "endpoint 0 0"), fault(api.ErrTwice, "endpoint 0 1")}},
	})
}

func TestAll(t *testing.T) { // P10.1: the order, and each item's own
	c := config.Config{
		Listeners: []config.Listener{
			{Routes: []config.Route{{}, {Host: "a", Path: "/", Cluster: "web"}, {Host: "a", Path: "/", Cluster: "web"}}},
			{Name: "a", Place: place(1, 1, 1, 1, 1)},
			{Name: "a", Place: place(1, 1, 1, 1, 1), Routes: []config.Route{{Host: "a", Path: "/", Cluster: "none"}}},
			{Name: "b", Place: place(1, 1, 1, 1, 1), Routes: []config.Route{{Host: "a", Path: "//", Cluster: "web"}}},
		},
		Clusters: []config.Cluster{
			{Name: "web"},
			{Name: "web", Endpoints: []config.Endpoint{{}, {Place: place(1, 1, 1, 1, 1), Weight: 1}, {Place: place(1, 1, 1, 1, 1), Weight: 2}}},
			{Name: "?", Endpoints: []config.Endpoint{{Place: place(1, 1, 1, 1, 1), Weight: 101}}},
		},
	}
	checked(t, "all that is wrong", c,
		fault(api.ErrForm, "listener 0"), fault(api.ErrShort, "route 0 0"), fault(api.ErrTwice, "route 0 2"),
		fault(api.ErrNone, "listener 1"),
		fault(api.ErrTwice, "listener 2"), fault(api.ErrNone, "route 2 0"),
		fault(api.ErrThere, "listener 3"), fault(api.ErrForm, "route 3 0"),
		fault(api.ErrNone, "cluster 0"),
		fault(api.ErrTwice, "cluster 1"), fault(api.ErrRange, "endpoint 1 0"), fault(api.ErrTwice, "endpoint 1 2"),
		fault(api.ErrForm, "cluster 2"), fault(api.ErrRange, "endpoint 2 0"),
	)
	last := full()
	last.Listeners[7].Routes[7].Cluster, last.Clusters[7].Endpoints[7].Weight = "none", 0
	checked(t, "the last of all", last, fault(api.ErrNone, "route 7 7"), fault(api.ErrRange, "endpoint 7 7"))
}

func TestArgumentsStay(t *testing.T) { // the rule of memory: spare room, too
	room := sample()
	room.Listeners, room.Clusters = append(room.Listeners, config.Listener{})[:3], append(room.Clusters, config.Cluster{})[:2]
	valid.All(room)
	valid.Check(room)
	valid.Fine(room)
	if !reflect.DeepEqual(room, sample()) || room.Listeners[:4][3].Name != "" || room.Clusters[:3][2].Name != "" {
		t.Errorf("changed: %v", room)
	}
}

// drawn: a config by chance, of few names, places and weights, so that it is often wrong, and often fine.
func drawn(r *rand.Rand) config.Config {
	names := []string{"a", "b", "c", "d", "e", "f", "g", "h"}
	name := func() string { return names[r.Intn(len(names))] }
	var c config.Config
	for range r.Intn(3) {
		l := config.Listener{Name: name(), Place: place(byte(r.Intn(3)), 0, 0, 0, uint16(r.Intn(8)))}
		for range r.Intn(4) {
			l.Routes = append(l.Routes, config.Route{Host: name(), Path: "/" + name(), Cluster: name()})
		}
		c.Listeners = append(c.Listeners, l)
	}
	for range r.Intn(8) {
		x := config.Cluster{Name: name()}
		for range r.Intn(4) {
			x.Endpoints = append(x.Endpoints, config.Endpoint{Place: place(byte(r.Intn(9)), 0, 0, 1, uint16(r.Intn(30))), Weight: r.Intn(102)})
		}
		c.Clusters = append(c.Clusters, x)
	}
	return c
}

func TestWhatIsFine(t *testing.T) { // P10.2
	r := rand.New(rand.NewSource(10))
	fine := 0
	for range 40000 {
		c := drawn(r)
		faults := valid.All(c)
		if valid.Fine(c) != (len(faults) == 0) || len(faults) > 0 && valid.Check(c) != faults[0] {
			t.Fatalf("of %v All says %v, Check %v, Fine %v", c, faults, valid.Check(c), valid.Fine(c))
		}
		if len(faults) > 0 || len(c.Listeners) == 0 {
			continue
		}
		fine++
		for i, l := range c.Listeners {
			if len(l.Routes) == 0 || slices.ContainsFunc(l.Routes, func(r config.Route) bool { return !leads(c, r) }) {
				t.Fatalf("fine, though a route of %v leads nowhere: %v", l, c)
			}
			for _, m := range c.Listeners[:i] {
				if spot.Meet(l.Place, m.Place) {
					t.Fatalf("fine, though %v and %v meet", l, m)
				}
			}
		}
	}
	if fine < 50 {
		t.Errorf("only %d with listeners were fine", fine)
	}
}

// leads: has a route endpoints?
func leads(c config.Config, r config.Route) bool {
	return slices.ContainsFunc(c.Clusters, func(x config.Cluster) bool { return x.Name == r.Cluster && len(x.Endpoints) > 0 })
}
