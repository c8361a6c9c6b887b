package config_test

import (
	"encoding/binary"
	"math"
	"math/rand"
	"reflect"
	"slices"
	"strings"
	"testing"
	"unsafe"

	"outrider/api"
	"outrider/config"
	"outrider/spot"
)

// Writings by hand, so that these tests don't lean on package codec.

func num(n uint64) string { return "\x01" + string(binary.AppendUvarint(nil, n)) }

func text(s string) string {
	return "\x02" + string(binary.AppendUvarint(nil, uint64(len(s)))) + s
}

func list(l ...string) string {
	return "\x03" + string(binary.AppendUvarint(nil, uint64(len(l)))) + strings.Join(l, "")
}

// many: a list of n times the same.
func many(n int, s string) string { return list(slices.Repeat([]string{s}, n)...) }

func placeOf(p spot.Place) string {
	return text(string(binary.BigEndian.AppendUint16(p.IP[:], p.Port)))
}

// written: a config's writing.
func written(c config.Config) string {
	var listeners, clusters []string
	for _, l := range c.Listeners {
		var routes []string
		for _, r := range l.Routes {
			routes = append(routes, list(text(r.Host), text(r.Path), text(r.Cluster), num(r.Idle)))
		}
		listeners = append(listeners, list(text(l.Name), placeOf(l.Place), list(routes...)))
	}
	for _, x := range c.Clusters {
		var endpoints []string
		for _, e := range x.Endpoints {
			endpoints = append(endpoints, list(placeOf(e.Place), num(uint64(e.Weight))))
		}
		clusters = append(clusters, list(text(x.Name), list(endpoints...)))
	}
	return list(num(c.Version), list(listeners...), list(clusters...))
}

func place(a, b, c, d byte, port uint16) spot.Place {
	return spot.Place{IP: [4]byte{a, b, c, d}, Port: port}
}

// sample: a config with all that there may be, in new memory.
func sample() config.Config {
	return config.Config{
		Version: 300,
		Listeners: []config.Listener{
			{Name: "main", Place: place(127, 0, 0, 1, 80), Routes: []config.Route{
				{Host: "a.b", Path: "/", Cluster: "web", Idle: 5},
				{Host: "*.b", Path: "/x", Cluster: "db"},
			}},
			{Name: "side", Place: place(0, 0, 0, 0, 65535), Routes: []config.Route{{Host: "c", Path: "/y/z", Cluster: "web", Idle: math.MaxUint64}}},
			{Name: "bare", Place: place(1, 2, 3, 4, 258)},
		},
		Clusters: []config.Cluster{
			{Name: "web", Endpoints: []config.Endpoint{{Place: place(10, 0, 0, 1, 8080), Weight: 1}, {Place: place(10, 0, 0, 2, 8080), Weight: 100}}},
			{Name: "db", Endpoints: []config.Endpoint{{Place: place(10, 0, 0, 3, 1), Weight: 0}}},
			{Name: "none"},
		},
	}
}

// full: a config with as many of all as may be.
func full() config.Config {
	c := config.Config{Version: math.MaxUint64}
	for i := range 8 {
		l := config.Listener{Place: place(byte(i), 0, 0, 0, 1)}
		x := config.Cluster{}
		for k := range 8 {
			l.Routes = append(l.Routes, config.Route{Host: "h", Idle: uint64(k)})
			x.Endpoints = append(x.Endpoints, config.Endpoint{Place: place(0, 0, 0, byte(k), 65535), Weight: math.MaxInt32 - k})
		}
		c.Listeners = append(c.Listeners, l)
		c.Clusters = append(c.Clusters, x)
	}
	return c
}

// odd: a config of texts that are no names, twice the same ones, too.
func odd() config.Config {
	return config.Config{
		Version: 1 << 63,
		Listeners: []config.Listener{
			{Name: "\x00\xff\x80", Place: place(255, 255, 255, 255, 1), Routes: []config.Route{{Host: "\xff", Path: "", Cluster: strings.Repeat("x", 200), Idle: 1 << 40}, {}}},
			{Name: "\x00\xff\x80", Place: place(255, 255, 255, 255, 1)},
		},
		Clusters: []config.Cluster{{}, {}, {Endpoints: []config.Endpoint{{Place: place(0, 0, 0, 0, 1), Weight: math.MaxInt32}}}},
	}
}

func samples() []config.Config {
	return []config.Config{{}, {Version: 4}, sample(), full(), odd(), long(8192)}
}

// long: a config whose writing has n bytes (from some 200 on).
func long(n int) config.Config {
	of := func(n int) config.Config {
		return config.Config{Clusters: []config.Cluster{{Name: strings.Repeat("x", n)}}}
	}
	return of(n - (len(written(of(n))) - n))
}

// same: are two the same? (Not by Same, which is under test.)
func same(a, b config.Config) bool { return written(a) == written(b) }

func isNothing(c config.Config) bool {
	return c.Version == 0 && len(c.Listeners) == 0 && len(c.Clusters) == 0
}

func TestBytes(t *testing.T) { // P9.1
	if s, e := (config.Config{}).Bytes(); s != "\x03\x03\x01\x00\x03\x00\x03\x00" || e != api.OK {
		t.Errorf("Bytes of the empty config: %x, %v", s, e)
	}
	empty := config.Config{Listeners: []config.Listener{}, Clusters: []config.Cluster{}}
	if s, e := empty.Bytes(); s != "\x03\x03\x01\x00\x03\x00\x03\x00" || e != api.OK {
		t.Errorf("Bytes of empty lists: %x, %v", s, e)
	}
	small := config.Config{
		Version:   4,
		Listeners: []config.Listener{{Name: "l", Place: place(1, 2, 3, 4, 0x506), Routes: []config.Route{{Host: "h", Path: "/p", Cluster: "c", Idle: 300}}}},
		Clusters:  []config.Cluster{{Name: "c", Endpoints: []config.Endpoint{{Place: place(7, 8, 9, 10, 0xb0c), Weight: 100}}}},
	}
	wanted := "\x03\x03\x01\x04" +
		"\x03\x01\x03\x03\x02\x01l\x02\x06\x01\x02\x03\x04\x05\x06\x03\x01\x03\x04\x02\x01h\x02\x02/p\x02\x01c\x01\xac\x02" +
		"\x03\x01\x03\x02\x02\x01c\x03\x01\x03\x02\x02\x06\x07\x08\x09\x0a\x0b\x0c\x01\x64"
	if s, e := small.Bytes(); s != wanted || e != api.OK {
		t.Errorf("Bytes of a small config: %x, %v, wanted %x", s, e, wanted)
	}
	for i, c := range samples() {
		if s, e := c.Bytes(); s != written(c) || e != api.OK {
			t.Errorf("Bytes of the config %d: %x, %v, wanted %x", i, s, e, written(c))
		}
	}
}

func TestBytesOfWhatIsNotRead(t *testing.T) { // P9.1: only a weight below 0 is no weight here, and each place is one
	c := sample()
	c.Listeners[0].Place.Port = 0
	c.Clusters[0].Endpoints[0] = config.Endpoint{Weight: math.MaxInt32 + 1}
	c.Clusters[0].Endpoints[1].Weight = math.MaxInt
	if s, e := c.Bytes(); s != written(c) || e != api.OK {
		t.Errorf("Bytes: %x, %v, wanted %x", s, e, written(c))
	}
}

// wrongs: what makes a config one that can't be written, the first that holds first.
func wrongs() []struct {
	what string
	make func(c *config.Config)
	e    api.Errno
} {
	type wrong = struct {
		what string
		make func(c *config.Config)
		e    api.Errno
	}
	return []wrong{
		{"9 listeners", func(c *config.Config) { c.Listeners = append(c.Listeners, make([]config.Listener, 6)...) }, api.ErrMany},
		{"9 clusters", func(c *config.Config) { c.Clusters = append(c.Clusters, make([]config.Cluster, 6)...) }, api.ErrMany},
		{"9 routes", func(c *config.Config) { c.Listeners[2].Routes = make([]config.Route, 9) }, api.ErrMany},
		{"9 endpoints", func(c *config.Config) { c.Clusters[2].Endpoints = make([]config.Endpoint, 9) }, api.ErrMany},
		{"a weight below 0", func(c *config.Config) { c.Clusters[1].Endpoints[0].Weight = -1 }, api.ErrRange},
		{"the least weight", func(c *config.Config) { c.Clusters[0].Endpoints[1].Weight = math.MinInt }, api.ErrRange},
		{"a long name", func(c *config.Config) { c.Listeners[0].Name = strings.Repeat("x", 8192) }, api.ErrLong},
		{"a long host", func(c *config.Config) { c.Listeners[1].Routes[0].Host = strings.Repeat("x", 1<<20) }, api.ErrLong},
		{"a long path", func(c *config.Config) { c.Listeners[0].Routes[1].Path = strings.Repeat("x", 9000) }, api.ErrLong},
		{"a long cluster's name", func(c *config.Config) { c.Clusters[0].Name = strings.Repeat("x", 9000) }, api.ErrLong},
	}
}

func TestBytesErrors(t *testing.T) { // P9.1
	for i, w := range wrongs() {
		c := sample()
		w.make(&c)
		if s, e := c.Bytes(); s != "" || e != w.e {
			t.Errorf("Bytes with %s: %x, %v, wanted %v", w.what, s, e, w.e)
		}
		for _, v := range wrongs()[i+1:] { // the first that holds, whichever is made first
			a, b := sample(), sample()
			w.make(&a)
			v.make(&a)
			v.make(&b)
			w.make(&b)
			for _, c := range []config.Config{a, b} {
				if s, e := c.Bytes(); s != "" || e != w.e {
					t.Errorf("Bytes with %s and %s: %x, %v, wanted %v", w.what, v.what, s, e, w.e)
				}
			}
		}
	}
	if _, e := long(8192).Bytes(); e != api.OK {
		t.Errorf("Bytes of 8192: %v", e)
	}
	if s, e := long(8193).Bytes(); s != "" || e != api.ErrLong {
		t.Errorf("Bytes of 8193: %x, %v", s, e)
	}
	if _, e := (config.Config{Listeners: make([]config.Listener, 1<<20)}).Bytes(); e != api.ErrMany {
		t.Errorf("Bytes of very many listeners: %v", e)
	}
	great := strings.Repeat("x", 1<<24) // copied for each of its places it would be some gigabytes
	routes := slices.Repeat([]config.Route{{Host: great, Path: great, Cluster: great}}, 8)
	listeners := slices.Repeat([]config.Listener{{Name: great, Routes: routes}}, 8)
	if s, e := (config.Config{Listeners: listeners}).Bytes(); s != "" || e != api.ErrLong {
		t.Errorf("Bytes of great texts: %v", e)
	}
}

func TestParse(t *testing.T) { // P9.1, P9.3
	for i, c := range samples() {
		if got, e := config.Parse(written(c)); !same(got, c) || e != api.OK {
			t.Errorf("Parse of the config %d: %v, %v", i, got, e)
		}
	}
	c, e := config.Parse(written(sample()))
	if wanted := sample(); e != api.OK || !reflect.DeepEqual(c.Listeners[:2], wanted.Listeners[:2]) || !reflect.DeepEqual(c.Clusters[:2], wanted.Clusters[:2]) || c.Version != 300 {
		t.Errorf("Parse: %v, %v", c, e)
	}
}

func TestParseWhatIsNoValue(t *testing.T) { // P9.1: layer 7's Get's error, ahead of all others
	whole := written(sample())
	for _, w := range []struct {
		what, s string
		e       api.Errno
	}{
		{"nothing", "", api.ErrShort},
		{"a kind alone", "\x03", api.ErrShort},
		{"half a config", whole[:len(whole)/2], api.ErrShort},
		{"a byte less", whole[:len(whole)-1], api.ErrShort},
		{"the kind 0", "\x00", api.ErrKind},
		{"the kind 4", "\x03\x03\x04", api.ErrKind},
		{"a number that isn't short", "\x03\x03\x01\x80\x00\x03\x00\x03\x00", api.ErrForm},
		{"a rest", whole + "x", api.ErrForm},
		{"a config twice", whole + whole, api.ErrForm},
		{"lists 7 deep", strings.Repeat("\x03\x01", 6) + "\x03\x00", api.ErrDeep},
		{"9 listeners, and it ends", "\x03\x03\x01\x00" + many(9, "\x01\x00"), api.ErrShort},
		{"more than 8192 bytes", written(long(8193)), api.ErrLong},
		{"more than 8192 bytes, none of a value", strings.Repeat("x", 8193), api.ErrLong},
		{"8192 bytes that are no value", strings.Repeat("x", 8192), api.ErrKind},
	} {
		if c, e := config.Parse(w.s); !isNothing(c) || e != w.e {
			t.Errorf("Parse of %s: %v, %v, wanted %v", w.what, c, e, w.e)
		}
	}
}

// The parts of writings, each of which stands in a whole one by the functions below.

var (
	anyPlace    = placeOf(place(1, 2, 3, 4, 5))
	anyRoute    = list(text("h"), text("/"), text("c"), num(1))
	anyListener = list(text("l"), anyPlace, list(anyRoute))
	anyEndpoint = list(anyPlace, num(1))
	anyCluster  = list(text("c"), list(anyEndpoint))
)

func ofListener(s string) string { return list(num(1), list(anyListener, s), list(anyCluster)) }
func ofRoute(s string) string    { return ofListener(list(text("l"), anyPlace, list(anyRoute, s))) }
func ofCluster(s string) string  { return list(num(1), list(anyListener), list(anyCluster, s)) }
func ofEndpoint(s string) string { return ofCluster(list(text("c"), list(anyEndpoint, s))) }

func TestParseWhatIsNoConfig(t *testing.T) { // P9.1
	for _, s := range []string{ofListener(anyListener), ofRoute(anyRoute), ofCluster(anyCluster), ofEndpoint(anyEndpoint)} {
		if _, e := config.Parse(s); e != api.OK {
			t.Fatalf("Parse of %x: %v", s, e)
		}
	}
	whole := func(s string) string { return s }
	others := map[byte][]string{ // of a kind: what is of another one
		1: {text(""), text("\x01"), list(), list(num(1))},
		2: {num(0), num(1), list(), list(text("x"))},
		3: {num(0), num(3), text(""), text("x")},
	}
	for _, w := range []struct {
		what   string
		of     func(s string) string
		fields []string
	}{
		{"a config", whole, []string{num(1), list(anyListener), list(anyCluster)}},
		{"a listener", ofListener, []string{text("l"), anyPlace, list(anyRoute)}},
		{"a route", ofRoute, []string{text("h"), text("/"), text("c"), num(1)}},
		{"a cluster", ofCluster, []string{text("c"), list(anyEndpoint)}},
		{"an endpoint", ofEndpoint, []string{anyPlace, num(1)}},
	} {
		refused := func(how, s string) {
			t.Helper()
			if c, e := config.Parse(w.of(s)); !isNothing(c) || e != api.ErrForm {
				t.Errorf("Parse of %s %s: %v, %v", w.what, how, c, e)
			}
		}
		for _, s := range others[3] {
			refused("that is no list", s)
		}
		refused("without fields", list())
		for i, f := range w.fields {
			refused("without a field", list(slices.Delete(slices.Clone(w.fields), i, i+1)...))
			refused("with a field twice", list(slices.Insert(slices.Clone(w.fields), i, f)...))
			for _, s := range others[f[0]] {
				refused("with a field of another kind", list(slices.Replace(slices.Clone(w.fields), i, i+1, s)...))
			}
		}
	}
}

func TestParsePlacesAndWeights(t *testing.T) { // P9.1
	for _, p := range []string{"", "\x01", "\x01\x02\x03\x04\x05", "\x01\x02\x03\x04\x05\x06\x07", "\x01\x02\x03\x04\x00\x00", "1.2.3.4:5", strings.Repeat("\x01", 12)} {
		for _, s := range []string{ofListener(list(text("l"), text(p), list())), ofEndpoint(list(text(p), num(1)))} {
			if c, e := config.Parse(s); !isNothing(c) || e != api.ErrForm {
				t.Errorf("Parse with the place %x: %v, %v", p, c, e)
			}
		}
	}
	for _, n := range []uint64{0, 1, 100, 101, 1<<31 - 2, 1<<31 - 1} {
		c, e := config.Parse(ofEndpoint(list(anyPlace, num(n))))
		if e != api.OK || c.Clusters[1].Endpoints[1].Weight != int(n) {
			t.Errorf("Parse with the weight %d: %v, %v", n, c, e)
		}
	}
	for _, n := range []uint64{1 << 31, 1<<31 + 1, 1 << 32, 1<<32 + 1, 1<<63 - 1, 1 << 63, math.MaxUint64} {
		if c, e := config.Parse(ofEndpoint(list(anyPlace, num(n)))); !isNothing(c) || e != api.ErrForm {
			t.Errorf("Parse with the weight %d: %v, %v", n, c, e)
		}
	}
}

func TestParseMany(t *testing.T) { // P9.1
	of := func(listeners, routes, clusters, endpoints int) string {
		l := list(text("l"), anyPlace, many(routes, anyRoute))
		x := list(text("c"), many(endpoints, anyEndpoint))
		return list(num(1), many(listeners, l), many(clusters, x))
	}
	if c, e := config.Parse(of(8, 8, 8, 8)); e != api.OK || len(c.Listeners) != 8 || len(c.Listeners[7].Routes) != 8 || len(c.Clusters) != 8 || len(c.Clusters[7].Endpoints) != 8 {
		t.Errorf("Parse of 8 of all: %v, %v", c, e)
	}
	wrongEnd := list(text("c"), list(list(anyPlace, num(1<<31))))
	for _, w := range []struct {
		what, s string
		e       api.Errno
	}{
		{"9 listeners", of(9, 1, 1, 1), api.ErrMany},
		{"9 routes", of(1, 9, 1, 1), api.ErrMany},
		{"9 clusters", of(1, 1, 9, 1), api.ErrMany},
		{"9 endpoints", of(1, 1, 1, 9), api.ErrMany},
		{"9 routes of the last listener", list(num(1), list(anyListener, list(text("l"), anyPlace, many(9, anyRoute))), list()), api.ErrMany},
		{"9 endpoints of the last cluster", list(num(1), list(), list(anyCluster, list(text("c"), many(9, anyEndpoint)))), api.ErrMany},
		{"200 routes", of(1, 200, 1, 1), api.ErrMany},
		{"9 listeners, and a wrong weight", list(num(1), many(9, anyListener), list(wrongEnd)), api.ErrForm}, // the first that is named
		{"9 listeners that are none", list(num(1), many(9, list()), list()), api.ErrForm},
		{"9 clusters, the last of which is none", list(num(1), list(), list(append(slices.Repeat([]string{anyCluster}, 8), num(1))...)), api.ErrForm},
		{"9 routes and no place", list(num(1), list(list(text("l"), text(""), many(9, anyRoute))), list()), api.ErrForm},
		{"9 fields", many(9, num(1)), api.ErrForm},
	} {
		if c, e := config.Parse(w.s); !isNothing(c) || e != w.e {
			t.Errorf("Parse of %s: %v, %v, wanted %v", w.what, c, e, w.e)
		}
	}
}

func TestParseIsNew(t *testing.T) { // the rule of memory
	s := written(sample())
	c, _ := config.Parse(s)
	if inside(s, c) {
		t.Error("Parse shares its text's memory")
	}
}

// inside: does one of a config's texts lie in another text's memory?
func inside(s string, c config.Config) bool {
	from := uintptr(unsafe.Pointer(unsafe.StringData(s)))
	return slices.ContainsFunc(texts(c), func(x string) bool {
		at := uintptr(unsafe.Pointer(unsafe.StringData(x)))
		return x != "" && from <= at && at < from+uintptr(len(s))
	})
}

// texts: all of a config.
func texts(c config.Config) []string {
	var all []string
	for _, l := range c.Listeners {
		all = append(all, l.Name)
		for _, r := range l.Routes {
			all = append(all, r.Host, r.Path, r.Cluster)
		}
	}
	for _, x := range c.Clusters {
		all = append(all, x.Name)
	}
	return all
}

func TestSame(t *testing.T) { // P9.2
	for i, a := range append(samples(), sample()) {
		for k, b := range append(samples(), sample()) {
			if got := config.Same(a, b); got != same(a, b) {
				t.Errorf("Same of the configs %d and %d: %v", i, k, got)
			}
		}
	}
	empty := config.Config{Listeners: []config.Listener{}, Clusters: make([]config.Cluster, 0, 3)}
	if !config.Same(config.Config{}, empty) || !config.Same(empty, config.Config{}) {
		t.Error("lists without elements are not the same")
	}
	bare := sample()
	bare.Listeners[2].Routes, bare.Clusters[2].Endpoints = []config.Route{}, []config.Endpoint{}
	if !config.Same(bare, sample()) || !config.Same(sample(), bare) {
		t.Error("lists without elements within are not the same")
	}
	for i, change := range []func(c *config.Config){
		func(c *config.Config) { c.Version++ },
		func(c *config.Config) { c.Listeners = c.Listeners[:2] },
		func(c *config.Config) { c.Listeners = c.Listeners[1:] },
		func(c *config.Config) { c.Listeners = nil },
		func(c *config.Config) { c.Listeners = append(c.Listeners, config.Listener{}) },
		func(c *config.Config) { slices.Reverse(c.Listeners) },
		func(c *config.Config) { c.Listeners[2].Name = "Bare" },
		func(c *config.Config) { c.Listeners[1].Place.Port-- },
		func(c *config.Config) { c.Listeners[1].Place.IP[3]++ },
		func(c *config.Config) { c.Listeners[0].Routes = c.Listeners[0].Routes[:1] },
		func(c *config.Config) { c.Listeners[2].Routes = make([]config.Route, 1) },
		func(c *config.Config) { slices.Reverse(c.Listeners[0].Routes) },
		func(c *config.Config) { c.Listeners[0].Routes[1].Host = "*.c" },
		func(c *config.Config) { c.Listeners[0].Routes[1].Path = "/x/" },
		func(c *config.Config) { c.Listeners[0].Routes[1].Cluster = "web" },
		func(c *config.Config) { c.Listeners[0].Routes[1].Idle++ },
		func(c *config.Config) { c.Clusters = c.Clusters[:2] },
		func(c *config.Config) { c.Clusters = append(c.Clusters, config.Cluster{}) },
		func(c *config.Config) { slices.Reverse(c.Clusters) },
		func(c *config.Config) { c.Clusters[2].Name = "" },
		func(c *config.Config) { c.Clusters[0].Endpoints = c.Clusters[0].Endpoints[:1] },
		func(c *config.Config) { c.Clusters[2].Endpoints = make([]config.Endpoint, 1) },
		func(c *config.Config) { slices.Reverse(c.Clusters[0].Endpoints) },
		func(c *config.Config) { c.Clusters[0].Endpoints[1].Place.Port++ },
		func(c *config.Config) { c.Clusters[0].Endpoints[1].Place.IP[0]++ },
		func(c *config.Config) { c.Clusters[0].Endpoints[1].Weight = -100 },
	} {
		c := sample()
		change(&c)
		if config.Same(c, sample()) || config.Same(sample(), c) {
			t.Errorf("Same in spite of the change %d", i)
		}
	}
}

func TestFind(t *testing.T) { // P9.2
	c := sample()
	c.Listeners = append(c.Listeners, config.Listener{Name: "side", Place: place(9, 9, 9, 9, 9)}, config.Listener{Place: place(8, 8, 8, 8, 8)})
	c.Clusters = append(c.Clusters, config.Cluster{Name: "db"}, config.Cluster{Endpoints: []config.Endpoint{{Weight: -1}}})
	for i, name := range []string{"main", "side", "bare"} { // the first side, too
		if l, ok := c.Listener(name); !ok || !reflect.DeepEqual(l, c.Listeners[i]) {
			t.Errorf("Listener(%q): %v, %v", name, l, ok)
		}
	}
	if l, ok := c.Listener(""); !ok || !reflect.DeepEqual(l, c.Listeners[4]) {
		t.Errorf("Listener without a name: %v, %v", l, ok)
	}
	for i, name := range []string{"web", "db", "none"} { // the first db, too
		if x, ok := c.Cluster(name); !ok || !reflect.DeepEqual(x, c.Clusters[i]) {
			t.Errorf("Cluster(%q): %v, %v", name, x, ok)
		}
	}
	if x, ok := c.Cluster(""); !ok || !reflect.DeepEqual(x, c.Clusters[4]) {
		t.Errorf("Cluster without a name: %v, %v", x, ok)
	}
	for _, name := range []string{"", "web", "Main", "mai", "main ", "a.b"} {
		if l, ok := sample().Listener(name); ok || !reflect.DeepEqual(l, config.Listener{}) {
			t.Errorf("Listener(%q): %v, %v", name, l, ok)
		}
	}
	for _, name := range []string{"", "main", "WEB", "we", "web\x00"} {
		if x, ok := sample().Cluster(name); ok || !reflect.DeepEqual(x, config.Cluster{}) {
			t.Errorf("Cluster(%q): %v, %v", name, x, ok)
		}
	}
	if _, ok := (config.Config{}).Listener(""); ok {
		t.Error("the empty config has a listener")
	}
	if _, ok := (config.Config{}).Cluster(""); ok {
		t.Error("the empty config has a cluster")
	}
}

func TestFindIsNew(t *testing.T) { // P9.2, and the rule of memory
	c := sample()
	l, _ := c.Listener("main")
	x, _ := c.Cluster("web")
	if shares(config.Config{Listeners: []config.Listener{l}, Clusters: []config.Cluster{x}}, c) {
		t.Error("what is found shares memory")
	}
	l.Routes[0].Host, x.Endpoints[0].Weight = "z", 7
	_ = append(l.Routes[:1], config.Route{})
	_ = append(x.Endpoints[:1], config.Endpoint{})
	if !same(c, sample()) {
		t.Error("what is found changes the config")
	}
}

func TestClone(t *testing.T) { // P9.2
	for i, c := range samples() {
		d := c.Clone()
		if !same(c, d) {
			t.Errorf("Clone of the config %d: %v", i, d)
		}
		if shares(d, c) {
			t.Errorf("Clone of the config %d shares memory", i)
		}
	}
	c := config.Config{Listeners: make([]config.Listener, 20), Clusters: make([]config.Cluster, 30)} // more than can be written
	c.Clusters[29].Endpoints = []config.Endpoint{{Weight: -1}}
	if d := c.Clone(); len(d.Listeners) != 20 || len(d.Clusters) != 30 || d.Clusters[29].Endpoints[0].Weight != -1 {
		t.Errorf("Clone of many: %v", d)
	}
	c = sample()
	d := c.Clone()
	d.Listeners[0].Routes[0].Host, d.Clusters[0].Endpoints[0].Weight = "z", 7
	d.Listeners[1].Name, d.Clusters[1].Name = "z", "z"
	if !same(c, sample()) {
		t.Error("a clone changes the config")
	}
}

// shares: have two a list's or a text's memory in common?
func shares(a, b config.Config) bool {
	for _, s := range texts(b) {
		if inside(s, a) {
			return true
		}
	}
	for _, l := range a.Listeners {
		for _, m := range b.Listeners {
			if cap(l.Routes) > 0 && cap(m.Routes) > 0 && unsafe.SliceData(l.Routes) == unsafe.SliceData(m.Routes) {
				return true
			}
		}
	}
	for _, x := range a.Clusters {
		for _, y := range b.Clusters {
			if cap(x.Endpoints) > 0 && cap(y.Endpoints) > 0 && unsafe.SliceData(x.Endpoints) == unsafe.SliceData(y.Endpoints) {
				return true
			}
		}
	}
	return cap(a.Listeners) > 0 && unsafe.SliceData(a.Listeners) == unsafe.SliceData(b.Listeners) ||
		cap(a.Clusters) > 0 && unsafe.SliceData(a.Clusters) == unsafe.SliceData(b.Clusters)
}

func TestArgumentsStay(t *testing.T) { // the rule of memory: spare room, too
	room := sample()
	room.Listeners, room.Clusters = slices.Grow(room.Listeners, 4), slices.Grow(room.Clusters, 4)
	room.Listeners[0].Routes = slices.Grow(room.Listeners[0].Routes, 4)
	room.Clusters[0].Endpoints = slices.Grow(room.Clusters[0].Endpoints, 4)
	room.Bytes()
	room.Clone()
	room.Listener("main")
	room.Cluster("web")
	config.Same(room, sample())
	room.Listeners, room.Clusters = room.Listeners[:4], room.Clusters[:4]
	room.Listeners[0].Routes, room.Clusters[0].Endpoints = room.Listeners[0].Routes[:3], room.Clusters[0].Endpoints[:3]
	wanted := sample()
	wanted.Listeners, wanted.Clusters = append(wanted.Listeners, config.Listener{}), append(wanted.Clusters, config.Cluster{})
	wanted.Listeners[0].Routes = append(wanted.Listeners[0].Routes, config.Route{})
	wanted.Clusters[0].Endpoints = append(wanted.Clusters[0].Endpoints, config.Endpoint{})
	if !reflect.DeepEqual(room, wanted) {
		t.Errorf("changed: %v", room)
	}
}

// drawn: a config by chance that can be written and read.
func drawn(r *rand.Rand) config.Config {
	word := func() string { return strings.Repeat(string(rune(r.Intn(300))), r.Intn(8)) }
	spots := func() spot.Place {
		return place(byte(r.Intn(256)), byte(r.Intn(256)), byte(r.Intn(256)), byte(r.Intn(256)), uint16(1+r.Intn(65535)))
	}
	c := config.Config{Version: r.Uint64() >> r.Intn(64)}
	for range r.Intn(9) {
		l := config.Listener{Name: word(), Place: spots()}
		for range r.Intn(9) {
			l.Routes = append(l.Routes, config.Route{Host: word(), Path: word(), Cluster: word(), Idle: r.Uint64() >> r.Intn(64)})
		}
		c.Listeners = append(c.Listeners, l)
	}
	for range r.Intn(9) {
		x := config.Cluster{Name: word()}
		for range r.Intn(9) {
			x.Endpoints = append(x.Endpoints, config.Endpoint{Place: spots(), Weight: int(r.Int31() >> r.Intn(31))})
		}
		c.Clusters = append(c.Clusters, x)
	}
	return c
}

func TestReadIsWritten(t *testing.T) { // P9.3
	r := rand.New(rand.NewSource(9))
	for range 2000 {
		c := drawn(r)
		s, e := c.Bytes()
		if s != written(c) || e != api.OK {
			t.Fatalf("Bytes of %v: %x, %v", c, s, e)
		}
		if got, e := config.Parse(s); e != api.OK || !same(got, c) || !config.Same(got, c) {
			t.Fatalf("Parse of Bytes of %v: %v, %v", c, got, e)
		}
	}
}

func TestNothingElseIsRead(t *testing.T) { // P9.1: what is read is the writing of what it is read as, and no text makes Parse panic
	r := rand.New(rand.NewSource(10))
	for range 20000 {
		b := []byte(written(drawn(r)))
		for range 1 + r.Intn(3) {
			b[r.Intn(len(b))] = byte(r.Intn(256) >> r.Intn(8))
		}
		s := string(b)
		c, e := config.Parse(s)
		if e != api.OK && !isNothing(c) {
			t.Fatalf("Parse of %x: %v, %v", s, c, e)
		}
		if e == api.OK && written(c) != s {
			t.Fatalf("Parse of %x: %v", s, c)
		}
	}
}
