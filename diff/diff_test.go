package diff_test

import (
	"cmp"
	"math"
	"math/rand"
	"reflect"
	"slices"
	"strconv"
	"testing"
	"unsafe"

	"outrider/config"
	"outrider/diff"
	"outrider/spot"
	"outrider/valid"
)

func place(a, b, c, d byte, port uint16) spot.Place {
	return spot.Place{IP: [4]byte{a, b, c, d}, Port: port}
}

func route(host string) config.Route {
	return config.Route{Host: host, Path: "/", Cluster: "web", Idle: 5}
}

// of: a config of listeners, with the one cluster that their routes lead to.
func of(l ...config.Listener) config.Config {
	web := config.Cluster{Name: "web", Endpoints: []config.Endpoint{{Place: place(10, 0, 0, 1, 80), Weight: 1}}}
	db := config.Cluster{Name: "db", Endpoints: []config.Endpoint{{Place: place(10, 0, 0, 2, 80), Weight: 1}}}
	return config.Config{Version: 4, Listeners: l, Clusters: []config.Cluster{web, db}}
}

// on: a listener with a route.
func on(name string, p spot.Place) config.Listener {
	return config.Listener{Name: name, Place: p, Routes: []config.Route{route("a.b")}}
}

// before and after: two configs between which everything is turned that may be, in new memory.
func before() config.Config {
	two := on("routes", place(4, 0, 0, 0, 80))
	two.Routes = append(two.Routes, route("c.d"))
	return of(on("stays", place(9, 0, 0, 0, 80)), on("goes", place(8, 0, 0, 0, 80)), two, on("moves", place(7, 0, 0, 0, 80)),
		on("also-stays", place(1, 0, 0, 0, 80)), on("also-goes", place(6, 0, 0, 0, 80)))
}

func after() config.Config {
	two := on("routes", place(4, 0, 0, 0, 80))
	two.Routes = append(two.Routes, route("c.e"))
	c := of(on("moves", place(7, 0, 0, 0, 81)), two, on("takes", place(6, 0, 0, 0, 80)), on("also-stays", place(1, 0, 0, 0, 80)),
		on("stays", place(9, 0, 0, 0, 80)), on("comes", place(2, 0, 0, 0, 80)))
	c.Version = 5
	c.Clusters[0].Endpoints[0].Weight = 9
	return c
}

// turned: what becomes of listeners from before to after, by hand.
func turned() diff.Change {
	return diff.Change{
		Added:   []string{"comes", "takes"},
		Removed: []string{"also-goes", "goes"},
		Changed: []string{"moves", "routes"},
		Kept:    []string{"also-stays", "stays"},
		Come:    []spot.Place{place(2, 0, 0, 0, 80), place(7, 0, 0, 0, 81)},
		Go:      []spot.Place{place(7, 0, 0, 0, 80), place(8, 0, 0, 0, 80)},
		Stay:    []spot.Place{place(1, 0, 0, 0, 80), place(4, 0, 0, 0, 80), place(6, 0, 0, 0, 80), place(9, 0, 0, 0, 80)},
	}
}

// back: a change the other way round, by hand.
func back(c diff.Change) diff.Change {
	c.Added, c.Removed, c.Come, c.Go = c.Removed, c.Added, c.Go, c.Come
	return c
}

// same: are two changes the same? (A list without elements may be nil or empty.)
func same(a, b diff.Change) bool {
	return slices.Equal(a.Added, b.Added) && slices.Equal(a.Removed, b.Removed) && slices.Equal(a.Changed, b.Changed) && slices.Equal(a.Kept, b.Kept) &&
		slices.Equal(a.Come, b.Come) && slices.Equal(a.Go, b.Go) && slices.Equal(a.Stay, b.Stay)
}

// checked holds Of, both ways, and Back and Empty of what it answers, against what is wanted.
func checked(t *testing.T, what string, a, b config.Config, wanted diff.Change) {
	t.Helper()
	for _, c := range []config.Config{a, b} {
		if f := valid.Check(c); f != (valid.Fault{}) {
			t.Fatalf("%s: of configs that aren't fine: %v", what, f)
		}
	}
	c, d := diff.Of(a, b), diff.Of(b, a)
	if !same(c, wanted) {
		t.Errorf("Of, %s: %v, wanted %v", what, c, wanted)
	}
	if !same(d, back(wanted)) {
		t.Errorf("Of, %s, the other way round: %v, wanted %v", what, d, back(wanted))
	}
	if !same(diff.Back(c), back(wanted)) || !same(diff.Back(d), wanted) || !same(diff.Back(diff.Back(c)), wanted) {
		t.Errorf("Back, %s: %v, and of the other one %v", what, diff.Back(c), diff.Back(d))
	}
	empty := len(wanted.Added)+len(wanted.Removed)+len(wanted.Changed) == 0
	if c.Empty() != empty || d.Empty() != empty {
		t.Errorf("Empty, %s: %v, and of the other one %v", what, c.Empty(), d.Empty())
	}
}

func TestOf(t *testing.T) { // P12.1, P12.2
	checked(t, "all that may be", before(), after(), turned())
	here := place(1, 2, 3, 4, 80)
	checked(t, "the empty config and itself", config.Config{}, config.Config{}, diff.Change{})
	checked(t, "empty lists", config.Config{Listeners: []config.Listener{}}, of(), diff.Change{})
	checked(t, "from none to one", config.Config{}, of(on("a", here)), diff.Change{Added: []string{"a"}, Come: []spot.Place{here}})
	checked(t, "one and itself", of(on("a", here)), of(on("a", here)), diff.Change{Kept: []string{"a"}, Stay: []spot.Place{here}})
	checked(t, "of another name", of(on("a", here)), of(on("b", here)), diff.Change{Added: []string{"b"}, Removed: []string{"a"}, Stay: []spot.Place{here}})
}

func TestOfClusters(t *testing.T) { // P12.1: versions and clusters are no listeners'
	here := place(1, 2, 3, 4, 80)
	c := of(on("a", here))
	d := of(on("a", here))
	d.Version = math.MaxUint64
	d.Clusters = append(d.Clusters[1:], config.Cluster{Name: "web", Endpoints: []config.Endpoint{{Place: here, Weight: 100}}})
	checked(t, "other clusters", c, d, diff.Change{Kept: []string{"a"}, Stay: []spot.Place{here}})
	checked(t, "clusters alone", of(), config.Config{}, diff.Change{})
}

func TestOfPlaces(t *testing.T) { // P12.1
	here := place(1, 2, 3, 4, 80)
	for _, there := range []spot.Place{
		place(0, 2, 3, 4, 80), place(1, 1, 3, 4, 80), place(1, 2, 2, 4, 80), place(1, 2, 3, 3, 80), place(1, 2, 3, 4, 79), place(1, 2, 3, 4, 16), place(0, 0, 0, 0, 80), // of which the last one meets
	} {
		wanted := diff.Change{Changed: []string{"a"}, Come: []spot.Place{there}, Go: []spot.Place{here}}
		checked(t, "another place", of(on("a", here)), of(on("a", there)), wanted)
	}
	a := of(on("a", place(1, 0, 0, 0, 1)), on("b", place(2, 0, 0, 0, 1)), on("c", place(3, 0, 0, 0, 1)))
	b := of(on("a", place(2, 0, 0, 0, 1)), on("b", place(1, 0, 0, 0, 1)), on("c", place(3, 0, 0, 0, 1)))
	checked(t, "two that take each other's places", a, b, diff.Change{Changed: []string{"a", "b"}, Kept: []string{"c"}, Stay: diff.Places(a)})
}

func TestOfRoutes(t *testing.T) { // P12.1
	here := place(1, 2, 3, 4, 80)
	with := func(change func(l *config.Listener)) config.Config {
		l := on("a", here)
		l.Routes = append(l.Routes, route("c.d"))
		change(&l)
		return of(l)
	}
	checked(t, "the same routes", with(func(*config.Listener) {}), with(func(*config.Listener) {}), diff.Change{Kept: []string{"a"}, Stay: []spot.Place{here}})
	for what, change := range map[string]func(l *config.Listener){
		"another host":       func(l *config.Listener) { l.Routes[0].Host = "a.c" },
		"another path":       func(l *config.Listener) { l.Routes[1].Path = "/x" },
		"another cluster":    func(l *config.Listener) { l.Routes[0].Cluster = "db" },
		"another Idle":       func(l *config.Listener) { l.Routes[1].Idle = 6 },
		"one less":           func(l *config.Listener) { l.Routes = l.Routes[:1] },
		"another one less":   func(l *config.Listener) { l.Routes = l.Routes[1:] },
		"one more":           func(l *config.Listener) { l.Routes = append(l.Routes, route("e")) },
		"turned about":       func(l *config.Listener) { slices.Reverse(l.Routes) },
		"another one's host": func(l *config.Listener) { l.Routes[1].Host, l.Routes[1].Path = "a.b", "/y" },
	} {
		checked(t, what, with(func(*config.Listener) {}), with(change), diff.Change{Changed: []string{"a"}, Stay: []spot.Place{here}})
	}
}

func TestOrders(t *testing.T) { // P12.1: names rising, places number by number
	var l []config.Listener
	names := []string{"b", "a10", "a2", "a_", "a-", "aa", "a", "z"}
	places := []spot.Place{place(10, 0, 0, 0, 1), place(9, 0, 0, 0, 65535), place(9, 0, 0, 0, 256), place(9, 0, 0, 0, 255), place(200, 0, 0, 0, 1), place(9, 0, 1, 0, 1), place(100, 0, 0, 0, 1), place(9, 0, 0, 1, 1)}
	for i, n := range names {
		l = append(l, on(n, places[i]))
	}
	rising := []string{"a", "a-", "a10", "a2", "a_", "aa", "b", "z"}
	placesRising := []spot.Place{places[3], places[2], places[1], places[7], places[5], places[0], places[6], places[4]}
	if got := diff.Places(of(l...)); !slices.Equal(got, placesRising) {
		t.Errorf("Places: %v, wanted %v", got, placesRising)
	}
	reversed := slices.Clone(l)
	slices.Reverse(reversed)
	checked(t, "all come", of(), of(l...), diff.Change{Added: rising, Come: placesRising})
	checked(t, "all stay", of(l...), of(reversed...), diff.Change{Kept: rising, Stay: placesRising})
	var other []config.Listener
	for i, n := range names {
		other = append(other, on(n, place(7, 7, 7, byte(i), 1)))
	}
	checked(t, "all are changed", of(l...), of(other...), diff.Change{Changed: rising, Go: placesRising, Come: diff.Places(of(other...))})
}

func TestPlaces(t *testing.T) { // P12.1
	for _, c := range []config.Config{{}, of()} {
		if got := diff.Places(c); len(got) != 0 {
			t.Errorf("Places of no listeners: %v", got)
		}
	}
	wanted := []spot.Place{place(1, 0, 0, 0, 80), place(4, 0, 0, 0, 80), place(6, 0, 0, 0, 80), place(7, 0, 0, 0, 80), place(8, 0, 0, 0, 80), place(9, 0, 0, 0, 80)}
	if got := diff.Places(before()); !slices.Equal(got, wanted) {
		t.Errorf("Places: %v, wanted %v", got, wanted)
	}
}

func TestEmpty(t *testing.T) { // P12.1
	for _, x := range []struct {
		c      diff.Change
		wanted bool
	}{
		{diff.Change{}, true},
		{diff.Change{Added: []string{}, Removed: []string{}, Changed: []string{}}, true},
		{diff.Change{Added: []string{"a"}}, false},
		{diff.Change{Removed: []string{"a"}}, false},
		{diff.Change{Changed: []string{"a"}}, false},
		{diff.Change{Kept: []string{"a"}, Stay: []spot.Place{{}}}, true},
		{turned(), false},
	} {
		if got := x.c.Empty(); got != x.wanted {
			t.Errorf("Empty of %v: %v", x.c, got)
		}
	}
}

func TestBack(t *testing.T) { // P12.1
	if got := diff.Back(turned()); !same(got, back(turned())) {
		t.Errorf("Back: %v", got)
	}
	if got := diff.Back(diff.Change{}); !same(got, diff.Change{}) {
		t.Errorf("Back of nothing: %v", got)
	}
}

// drawn: a config by chance that is fine, of few names and places.
func drawn(r *rand.Rand) config.Config {
	var l []config.Listener
	places := r.Perm(12)
	for i, n := range r.Perm(10)[:r.Intn(9)] {
		x := on("n"+strconv.Itoa(n), place(byte(1+places[i]%3), 0, 0, 0, uint16(1+places[i]/3)))
		if r.Intn(3) == 0 {
			x = on(x.Name, place(1, 0, 0, 0, uint16(100+n)))
		}
		x.Routes = append(x.Routes, []config.Route{route("c"), route("d")}[:r.Intn(3)]...)
		l = append(l, x)
	}
	return of(l...)
}

// asked: what Of answers, asked name by name and place by place.
func asked(a, b config.Config) diff.Change {
	var c diff.Change
	for n := range 10 { // of one digit, so that they rise
		name := "n" + strconv.Itoa(n)
		x, one := a.Listener(name)
		y, other := b.Listener(name)
		switch {
		case one && other && reflect.DeepEqual(x, y):
			c.Kept = append(c.Kept, name)
		case one && other:
			c.Changed = append(c.Changed, name)
		case one:
			c.Removed = append(c.Removed, name)
		case other:
			c.Added = append(c.Added, name)
		}
	}
	for _, p := range placesOf(a) {
		if slices.Contains(placesOf(b), p) {
			c.Stay = append(c.Stay, p)
		} else {
			c.Go = append(c.Go, p)
		}
	}
	for _, p := range placesOf(b) {
		if !slices.Contains(placesOf(a), p) {
			c.Come = append(c.Come, p)
		}
	}
	return c
}

// placesOf: a config's, rising.
func placesOf(c config.Config) []spot.Place {
	var l []spot.Place
	for _, x := range c.Listeners {
		l = append(l, x.Place)
	}
	slices.SortFunc(l, func(a, b spot.Place) int {
		return cmp.Or(slices.Compare(a.IP[:], b.IP[:]), cmp.Compare(a.Port, b.Port))
	})
	return l
}

func TestByChance(t *testing.T) { // P12.1, P12.2
	r := rand.New(rand.NewSource(12))
	for range 5000 {
		a, b := drawn(r), drawn(r)
		checked(t, "by chance", a, b, asked(a, b))
		checked(t, "a config and itself", a, a, diff.Change{Kept: asked(a, a).Kept, Stay: placesOf(a)})
		if !slices.Equal(diff.Places(a), placesOf(a)) {
			t.Errorf("Places of %v: %v", a, diff.Places(a))
		}
	}
}

func TestWhatIsNotFine(t *testing.T) { // P1: nothing is promised but an end
	here := place(1, 2, 3, 4, 80)
	twice := config.Config{Listeners: []config.Listener{on("a", here), on("a", here), {}, {}, on("\xff", spot.Place{})}}
	for _, c := range []config.Config{twice, {Listeners: make([]config.Listener, 1<<16)}, of(on("a", here))} {
		if len(diff.Places(c)) != len(c.Listeners) || !diff.Of(c, c).Empty() {
			t.Errorf("a config of %d listeners isn't itself", len(c.Listeners))
		}
		if a, b := diff.Of(c, twice), diff.Of(twice, c); !same(diff.Back(a), b) {
			t.Errorf("from a config of %d listeners: %v, and back %v", len(c.Listeners), a, b)
		}
	}
}

func TestArgumentsStay(t *testing.T) { // the rule of memory: spare room, too
	room := func(c config.Config) config.Config {
		c.Listeners = slices.Grow(c.Listeners, 4)
		c.Listeners[0].Routes = slices.Grow(c.Listeners[0].Routes, 4)
		return c
	}
	a, b := room(before()), room(after())
	diff.Places(a)
	diff.Of(a, b)
	for _, x := range []struct{ got, wanted config.Config }{{a, before()}, {b, after()}} {
		got, wanted := x.got, x.wanted
		got.Listeners, wanted.Listeners = got.Listeners[:7], append(wanted.Listeners, config.Listener{})
		got.Listeners[0].Routes, wanted.Listeners[0].Routes = got.Listeners[0].Routes[:2], append(wanted.Listeners[0].Routes, config.Route{})
		if !reflect.DeepEqual(got, wanted) {
			t.Errorf("changed: %v", got)
		}
	}
	c := turned()
	c.Added, c.Go = slices.Grow(c.Added, 2), slices.Grow(c.Go, 2)
	diff.Back(c)
	c.Empty()
	if !same(c, turned()) || c.Added[:3][2] != "" || c.Go[:3][2] != (spot.Place{}) {
		t.Errorf("changed: %v", c)
	}
}

func TestAnswersAreNew(t *testing.T) { // the rule of memory
	a, b := before(), after()
	c := diff.Of(a, b)
	all := []diff.Change{c, diff.Of(a, b), diff.Back(c), diff.Back(c)}
	seen := map[uintptr]bool{}
	for _, l := range append(a.Listeners, b.Listeners...) {
		seen[at(l.Name)] = true
	}
	for i, x := range all {
		for _, names := range [][]string{x.Added, x.Removed, x.Changed, x.Kept} {
			for _, s := range names {
				if seen[at(s)] {
					t.Errorf("the answer %d shares the memory of %q", i, s)
				}
				seen[at(s)] = true
			}
		}
	}
	wanted := []diff.Change{turned(), turned(), back(turned()), back(turned())}
	for i, x := range all {
		spoil(x)
		for k := i + 1; k < len(all); k++ {
			if !same(all[k], wanted[k]) {
				t.Errorf("the answer %d shares a list with %d", k, i)
			}
		}
	}
	if p, q := diff.Places(a), diff.Places(a); &p[0] == &q[0] {
		t.Error("Places answers one list twice")
	}
	if !reflect.DeepEqual(a, before()) || !reflect.DeepEqual(b, after()) {
		t.Error("what is done to an answer is done to the arguments, too")
	}
}

// at: where a text's bytes lie.
func at(s string) uintptr { return uintptr(unsafe.Pointer(unsafe.StringData(s))) }

// spoil writes over each element of a change's lists, and behind them, as far as there is room.
func spoil(c diff.Change) {
	for _, l := range [][]string{c.Added, c.Removed, c.Changed, c.Kept} {
		for i := range l[:cap(l)] {
			l[:cap(l)][i] = "spoilt"
		}
	}
	for _, l := range [][]spot.Place{c.Come, c.Go, c.Stay} {
		clear(l[:cap(l)])
	}
}
