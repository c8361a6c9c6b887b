package match_test

import (
	"math"
	"math/rand"
	"slices"
	"strings"
	"testing"

	"outrider/config"
	"outrider/match"
	"outrider/spot"
	"outrider/valid"
)

func route(host, path string) config.Route { return config.Route{Host: host, Path: path} }

// of: a listener with those routes.
func of(l ...config.Route) config.Listener { return config.Listener{Routes: l} }

// same: are both parts the same to the bit, so that -0 isn't 0?
func same(z, w complex128) bool {
	return math.Float64bits(real(z)) == math.Float64bits(real(w)) && math.Float64bits(imag(z)) == math.Float64bits(imag(w))
}

// checkBest holds Best and All against the routes that are wanted, the best first.
func checkBest(t *testing.T, l config.Listener, host, path string, wanted ...int) {
	t.Helper()
	if got := match.All(l, host, path); !slices.Equal(got, wanted) {
		t.Errorf("All of %v, %q, %q: %v, wanted %v", l.Routes, host, path, got, wanted)
	}
	first, ok := 0, len(wanted) > 0
	if ok {
		first = wanted[0]
	}
	if i, is := match.Best(l, host, path); i != first || is != ok {
		t.Errorf("Best of %v, %q, %q: %d, %v, wanted %d, %v", l.Routes, host, path, i, is, first, ok)
	}
}

// A model of the chapter, by hand; it doesn't lean on package label.

// ofPath: a path's parts.
func ofPath(s string) []string {
	return slices.DeleteFunc(strings.Split(s, "/"), func(p string) bool { return p == "" })
}

func isPath(s string) bool {
	other := func(c rune) bool { return c < 33 || c > 126 }
	return strings.HasPrefix(s, "/") && !strings.Contains(s, "//") && !strings.ContainsFunc(s, other) && len(s) <= 128
}

func under(prefix, path string) bool {
	return strings.HasPrefix(strings.Join(append(ofPath(path), ""), "/"), strings.Join(append(ofPath(prefix), ""), "/"))
}

// covers: of letters that are ASCII's.
func covers(pattern, host string) bool {
	pattern, host = strings.ToLower(pattern), strings.ToLower(host)
	return pattern == host || pattern == "*" || strings.HasPrefix(pattern, "*.") && strings.HasSuffix(host, pattern[1:])
}

func rank(r config.Route, host, path string) (int, int) {
	if !isPath(path) || !covers(r.Host, host) || !under(r.Path, path) {
		return 0, 0
	}
	n := 2 * len(strings.Split(r.Host, "."))
	if r.Host != "" && r.Host[0] == '*' {
		n--
	}
	return n, len(ofPath(r.Path))
}

// all: who is the best of those that are left, over and over.
func all(l config.Listener, host, path string) []int {
	var order []int
	for {
		best, a, b := -1, 0, 0
		for i, r := range l.Routes {
			c, d := rank(r, host, path)
			if !slices.Contains(order, i) && (c > a || c == a && d > b) {
				best, a, b = i, c, d
			}
		}
		if best < 0 {
			return order
		}
		order = append(order, best)
	}
}

func TestMatches(t *testing.T) { // P21.1
	long := "/" + strings.Repeat("a", 127)
	for _, c := range []struct {
		routeHost, routePath, host, path string
		wanted                           bool
	}{
		{"a.b", "/", "a.b", "/", true},
		{"a.b", "/", "a.b", "/x", true},
		{"a.b", "/", "a.b", "/x/y/", true},
		{"a.b", "/x", "a.b", "/x", true},
		{"a.b", "/x", "a.b", "/x/", true},
		{"a.b", "/x/", "a.b", "/x", true},
		{"a.b", "/x/y", "a.b", "/x/y/z", true},
		{"a.b", "/x", "A.B", "/x", true},
		{"A.b", "/x", "a.B", "/x", true},
		{"*.b", "/", "a.b", "/", true},
		{"*.b", "/", "a.a.b", "/", true},
		{"*.b", "/", "*.b", "/", true},
		{"*.b", "/x", "C.B", "/x/y", true},
		{"*", "/", "a", "/", true},
		{"*", "/", "a.b", "/", true},
		{"", "", "", "/", true},
		{"a", "///", "a", "/", true},
		{"a", "/", "a", long, true},
		{"a", long, "a", long, true},
		{"a.b", "/", "b", "/", false}, // the host isn't covered
		{"a.b", "/", "x.a.b", "/", false},
		{"a.b", "/", "a", "/", false},
		{"a.b", "/", "", "/", false},
		{"*.b", "/", "b", "/", false},
		{"*.b", "/", "xb", "/", false},
		{"*.b", "/", "a.c", "/", false},
		{"a.b", "/", "*.b", "/", false},
		{"*b", "/", "ab", "/", false},
		{"", "/", "a", "/", false},
		{"a.b", "/x", "a.b", "/", false}, // the path isn't under it
		{"a.b", "/x", "a.b", "/xy", false},
		{"a.b", "/x", "a.b", "/X", false},
		{"a.b", "/x", "a.b", "/y/x", false},
		{"a.b", "/x/y", "a.b", "/x", false},
		{"*.b", "/*", "a.b", "/x", false},
		{"a", "/", "a", "", false}, // the path is none
		{"a", "", "a", "", false},
		{"a", "", "a", "x", false},
		{"a", "/x", "a", "x", false},
		{"a", "/", "a", "//", false},
		{"a", "/x", "a", "/x//y", false},
		{"a", "/x", "a", "/x/ y", false},
		{"a", "/x", "a", "/x\x7f", false},
		{"a", "/", "a", "/é", false},
		{"a", "/", "a", "/\xff", false},
		{"a", "/", "a", "/\x00", false},
		{"a", "/", "a", long + "a", false},
		{"a", long + "a", "a", long + "a", false},
	} {
		r := config.Route{Host: c.routeHost, Path: c.routePath, Cluster: "web", Idle: 5}
		if got := match.Matches(r, c.host, c.path); got != c.wanted {
			t.Errorf("Matches(%q %q, %q, %q): %v", c.routeHost, c.routePath, c.host, c.path, got)
		}
		if got := match.Rank(r, c.host, c.path); (got != 0) != c.wanted {
			t.Errorf("Rank(%q %q, %q, %q): %v", c.routeHost, c.routePath, c.host, c.path, got)
		}
	}
}

func TestRank(t *testing.T) { // P21.1
	for _, c := range []struct {
		routeHost, routePath, host, path string
		wanted                           complex128
	}{
		{"a.b", "/", "a.b", "/x/y", 4},
		{"a.b", "/x", "a.b", "/x/y", 4 + 1i},
		{"a.b", "/x/", "a.b", "/x/y", 4 + 1i},
		{"a.b", "/x/y", "a.b", "/x/y", 4 + 2i},
		{"a.b", "x//y/", "a.b", "/x/y", 4 + 2i},
		{"*.b", "/", "a.b", "/", 3},
		{"*.b", "/x", "a.a.a.a.b", "/x", 3 + 1i}, // of the route's host, not of the request's
		{"*.b", "/", "*.b", "/", 3},
		{"*.a.b", "/", "x.a.b", "/", 5},
		{"a", "/", "a", "/", 2},
		{"A", "/", "a", "/", 2},
		{"*", "/", "a.b.c", "/", 1},
		{"*", "", "a", "/", 1},
		{"*x.b", "/", "*x.b", "/", 3}, // begun by *, whatever comes behind it
		{"a.*", "/", "a.*", "/", 4},
		{"", "/", "", "/", 2}, // one part, of no bytes
		{"a..b", "/", "a..b", "/", 6},
		{"a.b", "/x", "a.b", "/y", 0},
		{"a.b", "/", "c.b", "/", 0},
		{"a.b", "/", "a.b", "", 0},
		{"*.b", "/x/y", "a.b", "/x", 0},
	} {
		if got := match.Rank(route(c.routeHost, c.routePath), c.host, c.path); !same(got, c.wanted) {
			t.Errorf("Rank(%q %q, %q, %q): %v, wanted %v", c.routeHost, c.routePath, c.host, c.path, got, c.wanted)
		}
	}
}

func TestRankOfMany(t *testing.T) { // P21.1
	host := strings.Repeat("a.", 1<<20) + "a"
	if got := match.Rank(route(host, "/"), host, "/"); !same(got, 2*(1<<20+1)) {
		t.Errorf("Rank of a host of 2^20 parts and one: %v", got)
	}
	path := strings.Repeat("/a", 64)
	if got := match.Rank(route("*", path), host, path); !same(got, 1+64i) {
		t.Errorf("Rank of 64 parts of a path: %v", got)
	}
	if got := match.Rank(route("*", strings.Repeat("/", 1<<20)), host, path); !same(got, 1) {
		t.Errorf("Rank of 2^20 times /: %v", got)
	}
}

func TestAll(t *testing.T) { // P21.2
	l := of(route("*.b", "/"), route("a.b", "/"), route("a.b", "/x"), route("*.b", "/x/y"), route("c", "/"))
	checkBest(t, l, "a.b", "/", 1, 0)
	checkBest(t, l, "a.b", "/x", 2, 1, 0)
	checkBest(t, l, "a.b", "/x/y", 2, 1, 3, 0) // the host is ahead of the path
	checkBest(t, l, "A.B", "/x/y/z", 2, 1, 3, 0)
	checkBest(t, l, "d.b", "/x/y", 3, 0)
	checkBest(t, l, "d.b", "/x", 0)
	checkBest(t, l, "c", "/x", 4)
	checkBest(t, l, "b", "/")
	checkBest(t, l, "", "/")
	checkBest(t, l, "a.b", "")
	checkBest(t, l, "a.b", "x")
	checkBest(t, l, "a.b", "//")
	checkBest(t, of(route("*.b", "/"), route("a.b", "/")), "a.b", "/", 1, 0) // the chapter's
	checkBest(t, config.Listener{}, "a.b", "/")
	checkBest(t, config.Listener{Name: "main", Routes: []config.Route{}}, "", "")
}

func TestAllOfOneRank(t *testing.T) { // P21.2: of one rank rising
	checkBest(t, of(route("a", "/x"), route("A", "/x/"), route("a", "/x"), route("a", "/x")), "a", "/x", 0, 1, 2, 3)
	checkBest(t, of(route("*", "/"), route("a", "/x"), route("*", "/"), route("a", "/x/"), route("b", "/x"), route("*", "/")), "a", "/x/", 1, 3, 0, 2, 5)
	var many config.Listener
	var wanted [4][]int
	for i := range 400 { // more than some ways of sorting leave in order
		kind := i * 7 % 4
		many.Routes = append(many.Routes, []config.Route{route("a.b", "/x"), route("a.b", "/"), route("*.b", "/x"), route("*.b", "/")}[kind])
		wanted[kind] = append(wanted[kind], i)
	}
	checkBest(t, many, "a.b", "/x", slices.Concat(wanted[:]...)...)
}

func TestAnswersAreNew(t *testing.T) { // the rule on memory
	l := of(route("*.b", "/"), route("a.b", "/"), route("c", "/"))
	room := slices.Clone(l.Routes)
	l.Routes = l.Routes[:2]
	a, b := match.All(l, "a.b", "/"), match.All(l, "a.b", "/")
	a[0], a[1] = 7, 7
	if !slices.Equal(b, []int{1, 0}) || !slices.Equal(match.All(l, "a.b", "/"), b) {
		t.Errorf("All: %v", b)
	}
	match.Best(l, "a.b", "/")
	if !slices.Equal(l.Routes[:3], room) {
		t.Errorf("the routes are %v", l.Routes[:3])
	}
}

// Requests and routes by chance.

func one(r *rand.Rand, l ...string) string { return l[r.Intn(len(l))] }

func anyHost(r *rand.Rand) string {
	host := one(r, "a", "b", "*", "*", "A")
	for range r.Intn(4) {
		host += "." + one(r, "a", "a", "a", "a", "a", "A", "b", "")
	}
	return host
}

func anyPath(r *rand.Rand) string {
	path := one(r, "/", "/", "/", "/", "/", "/", "", "x")
	for range r.Intn(4) {
		path += one(r, "x/", "x/", "x/", "x/", "y/", "x", "/", "X", " ")
	}
	return path
}

// near: a route, mostly one that the request goes.
func near(r *rand.Rand, host, path string) config.Route {
	parts, first := strings.Split(host, "."), ofPath(path)
	x := route(host, "/"+strings.Join(first[:r.Intn(len(first)+1)], "/"))
	switch r.Intn(8) {
	case 0, 1, 2:
		x.Host = strings.Join(append([]string{"*"}, parts[r.Intn(len(parts)):]...), ".")
	case 3:
		x.Host = strings.ToUpper(host)
	case 4:
		x.Host = anyHost(r)
	case 5:
		x.Path = anyPath(r)
	case 6:
		x.Path += "/"
	}
	return x
}

func TestByChance(t *testing.T) { // P21.1, P21.2
	r := rand.New(rand.NewSource(21))
	some := 0
	for range 20000 {
		var l config.Listener
		host, path := anyHost(r), anyPath(r)
		for range r.Intn(12) {
			l.Routes = append(l.Routes, near(r, host, path))
		}
		for _, x := range l.Routes {
			a, b := rank(x, host, path)
			if got := match.Rank(x, host, path); !same(got, complex(float64(a), float64(b))) || match.Matches(x, host, path) != (a > 0) {
				t.Errorf("Rank(%q %q, %q, %q): %v, wanted %d and %d", x.Host, x.Path, host, path, got, a, b)
			}
		}
		wanted := all(l, host, path)
		checkBest(t, l, host, path, wanted...)
		if len(wanted) > 2 {
			some++
		}
	}
	if some < 1000 {
		t.Errorf("only %d had an order to speak of", some)
	}
}

// fine: a config of one listener, with routes near a request; is it fine?
func fine(r *rand.Rand, host, path string) (config.Config, bool) {
	end := config.Endpoint{Place: spot.Place{IP: [4]byte{1, 2, 3, 4}, Port: 80}, Weight: 1}
	l := config.Listener{Name: "main", Place: end.Place}
	for range 1 + r.Intn(8) {
		x := near(r, host, path)
		x.Host = strings.ToLower(x.Host)
		x.Path = "/" + strings.Join(ofPath(x.Path), "/") // none but / ends in /, so that unlike ones have unlike parts
		x.Cluster = "web"
		l.Routes = append(l.Routes, x)
	}
	c := config.Config{Listeners: []config.Listener{l}, Clusters: []config.Cluster{{Name: "web", Endpoints: []config.Endpoint{end}}}}
	return c, valid.Fine(c)
}

func TestItsOwnIsTheBest(t *testing.T) { // P21.3
	r := rand.New(rand.NewSource(22))
	tried := 0
	for range 20000 {
		c, ok := fine(r, anyHost(r), anyPath(r))
		if !ok {
			continue
		}
		for i, x := range c.Listeners[0].Routes {
			for _, host := range []string{x.Host, strings.ToUpper(x.Host)} {
				if got, ok := match.Best(c.Listeners[0], host, x.Path); got != i || !ok {
					t.Errorf("Best of %v, %q, %q: %d, %v, wanted %d", c.Listeners[0].Routes, host, x.Path, got, ok, i)
				}
			}
			tried++
		}
	}
	if tried < 1000 {
		t.Errorf("only %d routes", tried)
	}
}

func TestPathsOfTheSameParts(t *testing.T) { // P21.2, where P21.3 would have the other one: of one rank the first
	l := of(route("a", "/x"), route("a", "/x/"))
	checkBest(t, l, "a", "/x/", 0, 1)
	checkBest(t, l, "a", "/x", 0, 1)
}

func TestTakenAway(t *testing.T) { // P21.3: the others stay in the order that they had
	r := rand.New(rand.NewSource(23))
	tried := 0
	for range 20000 {
		host, path := anyHost(r), anyPath(r)
		c, ok := fine(r, host, path)
		if !ok {
			continue
		}
		routes := c.Listeners[0].Routes
		for gone := range routes {
			var wanted []int
			for _, i := range match.All(of(routes...), host, path) {
				switch {
				case i < gone:
					wanted = append(wanted, i)
				case i > gone:
					wanted = append(wanted, i-1)
				}
			}
			checkBest(t, of(slices.Delete(slices.Clone(routes), gone, gone+1)...), host, path, wanted...)
			if len(wanted) > 1 {
				tried++
			}
		}
	}
	if tried < 1000 {
		t.Errorf("only %d had an order to speak of", tried)
	}
}
