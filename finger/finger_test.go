package finger_test

import (
	"crypto/sha256"
	"encoding/binary"
	"encoding/hex"
	"math"
	"math/rand"
	"reflect"
	"slices"
	"strings"
	"testing"
	"unsafe"

	"outrider/api"
	"outrider/config"
	"outrider/finger"
	"outrider/spot"
)

func place(a, b, c, d byte, port uint16) spot.Place {
	return spot.Place{IP: [4]byte{a, b, c, d}, Port: port}
}

// sample: a config that stands in no order, in new memory.
func sample() config.Config {
	return config.Config{
		Version: 300,
		Listeners: []config.Listener{
			{Name: "side", Place: place(1, 0, 0, 0, 80), Routes: []config.Route{
				{Host: "z", Path: "/", Cluster: "web", Idle: 5},
				{Host: "a", Path: "/x", Cluster: "db"},
				{Host: "m", Path: "/", Cluster: "web", Idle: math.MaxUint64},
			}},
			{Name: "main", Place: place(2, 0, 0, 0, 80), Routes: []config.Route{{Host: "c", Path: "/", Cluster: "db"}}},
			{Name: "rest", Place: place(0, 0, 0, 0, 81)},
		},
		Clusters: []config.Cluster{
			{Name: "web", Endpoints: []config.Endpoint{
				{Place: place(10, 0, 0, 1, 81), Weight: 1},
				{Place: place(9, 255, 0, 1, 65535), Weight: 100},
				{Place: place(10, 0, 0, 1, 80), Weight: 50},
			}},
			{Name: "db", Endpoints: []config.Endpoint{{Place: place(10, 0, 0, 1, 80), Weight: 7}}},
			{Name: "none"},
		},
	}
}

// inOrder: the sample in the one way, by hand.
func inOrder() config.Config {
	s := sample()
	web := s.Clusters[0].Endpoints
	return config.Config{
		Listeners: []config.Listener{s.Listeners[1], s.Listeners[2], s.Listeners[0]},
		Clusters: []config.Cluster{
			s.Clusters[1], s.Clusters[2], {Name: "web", Endpoints: []config.Endpoint{web[1], web[2], web[0]}},
		},
	}
}

// doubled: a config with names and places that are there more than once.
func doubled() config.Config {
	return config.Config{
		Listeners: []config.Listener{
			{Name: "b", Place: place(3, 0, 0, 0, 1)}, {Name: "a", Place: place(9, 0, 0, 0, 1)}, {Name: "b", Place: place(2, 0, 0, 0, 1)},
			{Name: "", Place: place(7, 0, 0, 0, 0)}, {Name: "a", Place: place(8, 0, 0, 0, 1)}, {Name: "b", Place: place(1, 0, 0, 0, 1)},
		},
		Clusters: []config.Cluster{
			{Name: "y", Endpoints: []config.Endpoint{{Place: place(2, 0, 0, 0, 1), Weight: 3}, {Place: place(1, 0, 0, 0, 1), Weight: 2}, {Place: place(2, 0, 0, 0, 1), Weight: 1}, {Place: place(1, 0, 0, 0, 1), Weight: 1}}},
			{Name: "x"}, {Name: "y"},
		},
	}
}

// Writings by hand, so that these tests don't lean on packages codec and config.

func num(n uint64) string { return "\x01" + string(binary.AppendUvarint(nil, n)) }

func text(s string) string {
	return "\x02" + string(binary.AppendUvarint(nil, uint64(len(s)))) + s
}

func list(l ...string) string {
	return "\x03" + string(binary.AppendUvarint(nil, uint64(len(l)))) + strings.Join(l, "")
}

func placeOf(p spot.Place) string {
	return text(string(binary.BigEndian.AppendUint16(p.IP[:], p.Port)))
}

// written: a config's writing, as it stands.
func written(c config.Config) string {
	var listeners, clusters []string
	for _, l := range c.Listeners {
		var routes []string
		for _, r := range l.Routes {
			routes = append(routes, list(text(r.Host), text(r.Path), text(r.Cluster), num(r.Idle)))
		}
		listeners = append(listeners, list(text(l.Name), placeOf(l.Place), list(routes...)))
	}
	for _, x := range c.Clusters {
		var endpoints []string
		for _, e := range x.Endpoints {
			endpoints = append(endpoints, list(placeOf(e.Place), num(uint64(e.Weight))))
		}
		clusters = append(clusters, list(text(x.Name), list(endpoints...)))
	}
	return list(num(c.Version), list(listeners...), list(clusters...))
}

// sorted: a config in the one way, each element put behind all that aren't above it.
func sorted(c config.Config) config.Config {
	var s config.Config
	for _, l := range c.Listeners {
		at := slices.IndexFunc(s.Listeners, func(o config.Listener) bool { return o.Name > l.Name })
		s.Listeners = put(s.Listeners, at, l)
	}
	for _, x := range c.Clusters {
		at := slices.IndexFunc(s.Clusters, func(o config.Cluster) bool { return o.Name > x.Name })
		var endpoints []config.Endpoint
		for _, e := range x.Endpoints {
			at := slices.IndexFunc(endpoints, func(o config.Endpoint) bool { return placeOf(o.Place) > placeOf(e.Place) })
			endpoints = put(endpoints, at, e)
		}
		s.Clusters = put(s.Clusters, at, config.Cluster{Name: x.Name, Endpoints: endpoints})
	}
	return s
}

func put[T any](l []T, at int, x T) []T {
	if at < 0 {
		at = len(l)
	}
	return slices.Insert(l, at, x)
}

// printOf: the print of a config that stands in the one way already.
func printOf(c config.Config) api.Print {
	all := sha256.Sum256([]byte(written(c)))
	return api.Print(all[:16])
}

func TestCanon(t *testing.T) { // P11.1
	for i, c := range []struct{ c, wanted config.Config }{
		{config.Config{}, config.Config{}},
		{config.Config{Version: math.MaxUint64, Listeners: []config.Listener{}, Clusters: []config.Cluster{}}, config.Config{}},
		{sample(), inOrder()},
		{inOrder(), inOrder()},
	} {
		if got := finger.Canon(c.c); written(got) != written(c.wanted) {
			t.Errorf("Canon of the config %d: %v, wanted %v", i, got, c.wanted)
		}
	}
	named := func(names ...string) config.Config {
		var c config.Config
		for _, n := range names {
			c.Listeners = append(c.Listeners, config.Listener{Name: n})
			c.Clusters = append(c.Clusters, config.Cluster{Name: n})
		}
		return c
	}
	got := finger.Canon(named("b", "a10", "a2", "aa", "\xff", "", "B", "a"))
	if wanted := named("", "B", "a", "a10", "a2", "aa", "b", "\xff"); written(got) != written(wanted) {
		t.Errorf("Canon by names: %v", got)
	}
}

func TestCanonOfOneName(t *testing.T) { // P11.1: of one name, and of one place, as they stood
	c := finger.Canon(doubled())
	var first []byte
	for _, l := range c.Listeners {
		first = append(first, l.Place.IP[0])
	}
	if string(first) != "\x07\x09\x08\x03\x02\x01" {
		t.Errorf("Canon's listeners: %v", first)
	}
	one := place(1, 0, 0, 0, 1)
	two := place(2, 0, 0, 0, 1)
	wanted := []config.Endpoint{{Place: one, Weight: 2}, {Place: one, Weight: 1}, {Place: two, Weight: 3}, {Place: two, Weight: 1}}
	if len(c.Clusters) != 3 || c.Clusters[0].Name != "x" || !slices.Equal(c.Clusters[1].Endpoints, wanted) || len(c.Clusters[2].Endpoints) != 0 {
		t.Errorf("Canon's clusters: %v", c.Clusters)
	}
	var many config.Config // so many that no sorting of few keeps them as they stood by chance
	for i := range 1000 {
		many.Listeners = append(many.Listeners, config.Listener{Name: string(rune('a' + i%3)), Place: place(0, 0, 0, 0, uint16(i))})
		many.Clusters = append(many.Clusters, config.Cluster{Name: string(rune('a' + i%3)), Endpoints: []config.Endpoint{{Weight: -i}}})
	}
	many.Clusters[0].Endpoints = nil
	for i := range 1000 {
		many.Clusters[0].Endpoints = append(many.Clusters[0].Endpoints, config.Endpoint{Place: place(byte(i%3), 0, 0, 0, 0), Weight: i})
	}
	if written(finger.Canon(many)) != written(sorted(many)) {
		t.Error("Canon of many of one name doesn't keep them as they stood")
	}
}

func TestCanonOfAny(t *testing.T) { // P11.1, P1: what can't be written, too
	c := config.Config{
		Version:   7,
		Listeners: make([]config.Listener, 20),
		Clusters:  []config.Cluster{{Name: strings.Repeat("x", 9000), Endpoints: []config.Endpoint{{Weight: math.MinInt}, {Weight: -1}}}},
	}
	if got, wanted := finger.Canon(c), sorted(c); written(got) != written(wanted) {
		t.Errorf("Canon: %v", got)
	}
}

func TestOf(t *testing.T) { // P11.1
	for i, c := range []config.Config{{}, sample(), inOrder(), doubled(), long(8192), long(200)} {
		if got, e := finger.Of(c); got != printOf(sorted(c)) || e != api.OK {
			t.Errorf("Of of the config %d: %x, %v, wanted %x", i, got, e, printOf(sorted(c)))
		}
	}
	all := sha256.Sum256([]byte("\x03\x03\x01\x00\x03\x00\x03\x00"))
	if got, e := finger.Of(config.Config{Version: 9}); string(got[:]) != string(all[:16]) || e != api.OK {
		t.Errorf("Of of an empty config: %x, %v", got, e)
	}
}

// long: a config whose writing has n bytes (from some 200 on).
func long(n int) config.Config {
	of := func(n int) config.Config {
		return config.Config{Clusters: []config.Cluster{{Name: strings.Repeat("x", n)}}}
	}
	return of(n - (len(written(of(n))) - n))
}

func TestOfErrors(t *testing.T) { // P11.1: layer 9's errors, the first that holds
	for i, w := range []struct {
		what string
		make func(c *config.Config)
		e    api.Errno
	}{
		{"9 listeners", func(c *config.Config) { c.Listeners = append(c.Listeners, make([]config.Listener, 6)...) }, api.ErrMany},
		{"9 clusters", func(c *config.Config) { c.Clusters = append(c.Clusters, make([]config.Cluster, 6)...) }, api.ErrMany},
		{"9 routes", func(c *config.Config) { c.Listeners[2].Routes = make([]config.Route, 9) }, api.ErrMany},
		{"9 endpoints", func(c *config.Config) { c.Clusters[2].Endpoints = make([]config.Endpoint, 9) }, api.ErrMany},
		{"a weight below 0", func(c *config.Config) { c.Clusters[0].Endpoints[2].Weight = -1 }, api.ErrRange},
		{"a long name", func(c *config.Config) { c.Listeners[0].Name = strings.Repeat("x", 8192) }, api.ErrLong},
	} {
		c := sample()
		w.make(&c)
		if p, e := finger.Of(c); p != (api.Print{}) || e != w.e {
			t.Errorf("Of with %s: %x, %v, wanted %v", w.what, p, e, w.e)
		}
		c.Clusters[1].Name = strings.Repeat("x", 8192)
		if p, e := finger.Of(c); p != (api.Print{}) || e != w.e {
			t.Errorf("Of with %s (%d), and a long name: %x, %v, wanted %v", w.what, i, p, e, w.e)
		}
	}
}

func TestOfLong(t *testing.T) { // P11.1: it is Canon whose writing may be too long, and its version takes a byte alone
	c := long(8192)
	wanted := printOf(c)
	c.Version = math.MaxUint64
	if _, e := c.Bytes(); e != api.ErrLong {
		t.Fatalf("Bytes: %v", e)
	}
	if p, e := finger.Of(c); p != wanted || e != api.OK {
		t.Errorf("Of of 8192 bytes, and a long version: %x, %v", p, e)
	}
	if p, e := finger.Of(long(8193)); p != (api.Print{}) || e != api.ErrLong {
		t.Errorf("Of of 8193 bytes: %x, %v", p, e)
	}
	great := strings.Repeat("x", 1<<24) // copied for each of its places it would be some gigabytes
	routes := slices.Repeat([]config.Route{{Host: great, Path: great, Cluster: great}}, 8)
	listeners := slices.Repeat([]config.Listener{{Name: great, Routes: routes}}, 8)
	if p, e := finger.Of(config.Config{Listeners: listeners}); p != (api.Print{}) || e != api.ErrLong {
		t.Errorf("Of of great texts: %x, %v", p, e)
	}
	if p, e := finger.Of(config.Config{Listeners: make([]config.Listener, 1<<20)}); p != (api.Print{}) || e != api.ErrMany {
		t.Errorf("Of of very many listeners: %x, %v", p, e)
	}
}

func TestText(t *testing.T) { // P11.1
	if s := finger.Text(api.Print{}); s != strings.Repeat("0", 32) {
		t.Errorf("Text of the zero print: %q", s)
	}
	p := api.Print{0x01, 0x23, 0x45, 0x67, 0x89, 0xab, 0xcd, 0xef, 0xfe, 0xdc, 0xba, 0x98, 0x76, 0x54, 0x32, 0x10}
	if s := finger.Text(p); s != "0123456789abcdeffedcba9876543210" {
		t.Errorf("Text: %q", s)
	}
	for i := range p {
		for n := range 256 {
			q := p
			q[i] = byte(n)
			s := finger.Text(q)
			if s != hex.EncodeToString(q[:]) {
				t.Errorf("Text of %x: %q", q[:], s)
			}
			if got, e := finger.Parse(s); got != q || e != api.OK {
				t.Errorf("Parse(%q): %x, %v", s, got, e)
			}
		}
	}
}

func TestParse(t *testing.T) { // P11.1
	const whole = "0123456789abcdeffedcba9876543210"
	if p, e := finger.Parse(whole); hex.EncodeToString(p[:]) != whole || e != api.OK {
		t.Errorf("Parse: %x, %v", p, e)
	}
	for _, s := range []string{
		"", "0", whole[:31], whole[:30], whole + "0", whole + "00", whole + whole, whole[1:], " " + whole[1:], whole + " ", whole + "\n",
		strings.ToUpper(whole), "0x" + whole, "0x" + whole[2:], "-" + whole[1:], "+" + whole[1:], strings.Repeat("é", 16), strings.Repeat("é", 32),
		strings.Repeat("\x00", 16), strings.Repeat("\x00", 32), strings.Repeat("g", 32), strings.Repeat("0", 1<<16),
	} {
		if p, e := finger.Parse(s); p != (api.Print{}) || e != api.ErrForm {
			t.Errorf("Parse(%q): %x, %v, wanted none, %v", s, p, e, api.ErrForm)
		}
	}
	for i := range len(whole) {
		for n := range 256 {
			s := whole[:i] + string([]byte{byte(n)}) + whole[i+1:]
			p, e := finger.Parse(s)
			fine := strings.IndexByte("0123456789abcdef", byte(n)) >= 0
			if fine && (e != api.OK || finger.Text(p) != s) || !fine && (e != api.ErrForm || p != api.Print{}) {
				t.Errorf("Parse(%q): %x, %v", s, p, e)
			}
		}
	}
}

func TestZero(t *testing.T) { // P11.1
	if !finger.Zero(api.Print{}) {
		t.Error("the zero print isn't Zero")
	}
	for i := range 16 {
		for _, n := range []byte{1, 16, 128, 255} {
			var p api.Print
			p[i] = n
			if finger.Zero(p) {
				t.Errorf("%x is Zero", p)
			}
		}
	}
}

// told: a config's print, which there is.
func told(t *testing.T, c config.Config) api.Print {
	t.Helper()
	p, e := finger.Of(c)
	if e != api.OK {
		t.Errorf("Of of %v: %v", c, e)
	}
	return p
}

func TestWhatMakesNoDifference(t *testing.T) { // P11.2
	r := rand.New(rand.NewSource(11))
	wanted := told(t, sample())
	for range 500 {
		c := sample()
		c.Version = r.Uint64() >> r.Intn(64)
		shuffle(r, c.Listeners)
		shuffle(r, c.Clusters)
		for i := range c.Clusters {
			shuffle(r, c.Clusters[i].Endpoints)
		}
		if got := told(t, c); got != wanted {
			t.Errorf("Of of %v: %x, wanted %x", c, got, wanted)
		}
		if got := finger.Canon(c); written(got) != written(inOrder()) {
			t.Errorf("Canon of %v: %v", c, got)
		}
	}
}

func shuffle[T any](r *rand.Rand, l []T) {
	r.Shuffle(len(l), func(i, k int) { l[i], l[k] = l[k], l[i] })
}

func TestWhatMakesADifference(t *testing.T) { // P11.2
	seen := map[api.Print]int{told(t, sample()): -1}
	for i, change := range []func(c *config.Config){
		func(c *config.Config) { c.Listeners = c.Listeners[:2] },
		func(c *config.Config) { c.Listeners = c.Listeners[1:] },
		func(c *config.Config) { c.Listeners = append(c.Listeners, config.Listener{Name: "more"}) },
		func(c *config.Config) { c.Listeners = append(c.Listeners, c.Listeners[1]) },
		func(c *config.Config) { c.Listeners[0].Name = "Side" },
		func(c *config.Config) { c.Listeners[0].Name, c.Listeners[1].Name = "main", "side" },
		func(c *config.Config) { c.Listeners[0].Place.IP[3] = 1 },
		func(c *config.Config) { c.Listeners[0].Place.Port++ },
		func(c *config.Config) { c.Listeners[0].Routes = nil },
		func(c *config.Config) { c.Listeners[0].Routes = c.Listeners[0].Routes[:2] },
		func(c *config.Config) { c.Listeners[0].Routes[0].Host = "Z" },
		func(c *config.Config) { c.Listeners[0].Routes[0].Path = "/a" },
		func(c *config.Config) { c.Listeners[0].Routes[0].Cluster = "db" },
		func(c *config.Config) { c.Listeners[0].Routes[0].Idle++ },
		func(c *config.Config) { c.Listeners[0].Routes[2].Idle = 0 },
		func(c *config.Config) {
			c.Listeners[0].Routes[0], c.Listeners[0].Routes[1] = c.Listeners[0].Routes[1], c.Listeners[0].Routes[0]
		},
		func(c *config.Config) { slices.Reverse(c.Listeners[0].Routes) },
		func(c *config.Config) { c.Clusters = c.Clusters[:2] },
		func(c *config.Config) { c.Clusters = nil },
		func(c *config.Config) { c.Listeners = nil },
		func(c *config.Config) { c.Clusters = append(c.Clusters, config.Cluster{}) },
		func(c *config.Config) { c.Clusters[0].Name = "Web" },
		func(c *config.Config) { c.Clusters[0].Name, c.Clusters[1].Name = "db", "web" },
		func(c *config.Config) { c.Clusters[0].Endpoints = c.Clusters[0].Endpoints[:2] },
		func(c *config.Config) { c.Clusters[0].Endpoints[0].Place.IP[0]++ },
		func(c *config.Config) { c.Clusters[0].Endpoints[0].Place.Port = 0 },
		func(c *config.Config) { c.Clusters[0].Endpoints[0].Weight = 2 },
		func(c *config.Config) { c.Clusters[0].Endpoints[0].Weight, c.Clusters[0].Endpoints[2].Weight = 50, 1 },
		func(c *config.Config) {
			c.Clusters[2].Endpoints = append(c.Clusters[2].Endpoints, config.Endpoint{Weight: math.MaxInt})
		},
	} {
		c := sample()
		change(&c)
		p := told(t, c)
		if k, there := seen[p]; there {
			t.Errorf("the change %d has the print of %d", i, k)
		}
		seen[p] = i
	}
}

func TestOrderOfOneName(t *testing.T) { // P11.2: only that of unlike names and places makes no difference
	a := told(t, doubled())
	for i, change := range []func(c *config.Config){
		func(c *config.Config) { c.Listeners[0], c.Listeners[2] = c.Listeners[2], c.Listeners[0] },
		func(c *config.Config) { c.Clusters[0], c.Clusters[2] = c.Clusters[2], c.Clusters[0] },
		func(c *config.Config) {
			c.Clusters[0].Endpoints[0], c.Clusters[0].Endpoints[2] = c.Clusters[0].Endpoints[2], c.Clusters[0].Endpoints[0]
		},
	} {
		c := doubled()
		change(&c)
		if told(t, c) == a {
			t.Errorf("the turn %d makes no difference", i)
		}
	}
	c := doubled()
	c.Listeners[0], c.Listeners[1] = c.Listeners[1], c.Listeners[0]
	c.Clusters[0], c.Clusters[1] = c.Clusters[1], c.Clusters[0]
	if told(t, c) != a {
		t.Error("the order of unlike names makes a difference")
	}
}

// drawn: a config by chance, of few names and places.
func drawn(r *rand.Rand) config.Config {
	c := config.Config{Version: r.Uint64()}
	letter := func() string { return string(rune('a' + r.Intn(4))) }
	for range r.Intn(5) {
		l := config.Listener{Name: letter(), Place: place(0, 0, 0, byte(r.Intn(2)), uint16(r.Intn(3)))}
		for range r.Intn(3) {
			l.Routes = append(l.Routes, config.Route{Host: letter(), Path: "/" + letter(), Cluster: letter(), Idle: uint64(r.Intn(2))})
		}
		c.Listeners = append(c.Listeners, l)
	}
	for range r.Intn(5) {
		x := config.Cluster{Name: letter()}
		for range r.Intn(5) {
			x.Endpoints = append(x.Endpoints, config.Endpoint{Place: place(byte(r.Intn(2)), 0, 0, 0, uint16(r.Intn(3))), Weight: r.Intn(3)})
		}
		c.Clusters = append(c.Clusters, x)
	}
	return c
}

func TestByChance(t *testing.T) { // P11.1, P11.2
	r := rand.New(rand.NewSource(12))
	last := map[api.Print]string{}
	for range 5000 {
		c := drawn(r)
		canon := finger.Canon(c)
		wanted := written(sorted(c))
		if written(canon) != wanted || written(finger.Canon(canon)) != wanted {
			t.Errorf("Canon of %v: %v", c, canon)
		}
		p := told(t, c)
		if p != printOf(sorted(c)) || p != told(t, canon) {
			t.Errorf("Of of %v: %x", c, p)
		}
		if s, there := last[p]; there && s != wanted {
			t.Errorf("two unlike configs of the print %x", p)
		}
		last[p] = wanted
	}
}

func TestArgumentsStay(t *testing.T) { // the rule of memory: spare room, too
	room := sample()
	room.Listeners, room.Clusters = slices.Grow(room.Listeners, 4), slices.Grow(room.Clusters, 4)
	room.Listeners[0].Routes = slices.Grow(room.Listeners[0].Routes, 4)
	room.Clusters[0].Endpoints = slices.Grow(room.Clusters[0].Endpoints, 4)
	finger.Canon(room)
	finger.Of(room)
	room.Listeners, room.Clusters = room.Listeners[:4], room.Clusters[:4]
	room.Listeners[0].Routes, room.Clusters[0].Endpoints = room.Listeners[0].Routes[:4], room.Clusters[0].Endpoints[:4]
	wanted := sample()
	wanted.Listeners, wanted.Clusters = append(wanted.Listeners, config.Listener{}), append(wanted.Clusters, config.Cluster{})
	wanted.Listeners[0].Routes = append(wanted.Listeners[0].Routes, config.Route{})
	wanted.Clusters[0].Endpoints = append(wanted.Clusters[0].Endpoints, config.Endpoint{})
	if !reflect.DeepEqual(room, wanted) {
		t.Errorf("changed: %v", room)
	}
}

func TestCanonIsNew(t *testing.T) { // the rule of memory
	for _, c := range []config.Config{sample(), inOrder()} {
		got, other := finger.Canon(c), finger.Canon(c)
		seen := map[uintptr]bool{}
		for _, c := range []config.Config{c, got, other} {
			for _, at := range memory(c) {
				if seen[at] {
					t.Errorf("Canon of %v shares memory", c)
				}
				seen[at] = true
			}
		}
		got.Listeners[0].Name = "x"
		got.Listeners[0].Routes[0].Host = "x"
		got.Clusters[0].Endpoints[0].Weight = 99
		if written(other) != written(inOrder()) || written(sorted(c)) != written(inOrder()) {
			t.Error("what is done to what Canon answered is done to another config, too")
		}
	}
}

// memory: where a config's lists lie.
func memory(c config.Config) []uintptr {
	all := []uintptr{uintptr(unsafe.Pointer(unsafe.SliceData(c.Listeners))), uintptr(unsafe.Pointer(unsafe.SliceData(c.Clusters)))}
	for _, l := range c.Listeners {
		if len(l.Routes) > 0 {
			all = append(all, uintptr(unsafe.Pointer(unsafe.SliceData(l.Routes))))
		}
	}
	for _, x := range c.Clusters {
		if len(x.Endpoints) > 0 {
			all = append(all, uintptr(unsafe.Pointer(unsafe.SliceData(x.Endpoints))))
		}
	}
	return all
}
