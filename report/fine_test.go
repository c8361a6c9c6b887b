package report_test

import (
	"math/rand"
	"strconv"
	"strings"
	"testing"

	"outrider/api"
	"outrider/config"
	"outrider/report"
	"outrider/spot"
	"outrider/valid"
)

// reads: the config of lines, by hand; so no other one can have them.
func reads(t *testing.T, lines []string) config.Config {
	t.Helper()
	var c config.Config
	number := func(s string) uint64 {
		n, err := strconv.ParseUint(s, 10, 64)
		if err != nil {
			t.Fatalf("%q is no number", s)
		}
		return n
	}
	place := func(s string) spot.Place {
		p, e := spot.Parse(s)
		if e != api.OK {
			t.Fatalf("%q is no place", s)
		}
		return p
	}
	for i, line := range lines {
		parts := strings.Split(line, " ")
		is(t, "is it the first line of "+line, parts[0] == "config", i == 0)
		switch parts[0] {
		case "config":
			c.Version = number(parts[1])
		case "listener":
			c.Listeners = append(c.Listeners, config.Listener{Name: parts[1], Place: place(parts[2])})
		case "route":
			l := &c.Listeners[len(c.Listeners)-1]
			l.Routes = append(l.Routes, config.Route{Host: parts[1], Path: parts[2], Cluster: parts[3], Idle: number(parts[4])})
		case "cluster":
			x := config.Cluster{Name: parts[1]}
			for _, p := range parts[2:] {
				at, weight, _ := strings.Cut(p, "=")
				x.Endpoints = append(x.Endpoints, config.Endpoint{Place: place(at), Weight: int(number(weight))})
			}
			c.Clusters = append(c.Clusters, x)
		default:
			t.Fatalf("%q is no line", line)
		}
	}
	return c
}

// fine holds the lines of a config that is fine to what they must be.
func fine(t *testing.T, c config.Config) {
	t.Helper()
	lines := report.Config(c)
	for _, line := range lines {
		for i := range len(line) {
			if line[i] < 32 || line[i] > 126 {
				t.Errorf("%q has a byte that isn't plain", line)
			}
		}
		is(t, "blanks of "+line, strings.Join(strings.Fields(line), " "), line)
	}
	if got := reads(t, lines); !config.Same(got, c) {
		t.Errorf("%q is of %v, too, and of %v", lines, got, c)
	}
}

// from: a text of these bytes, by chance.
func from(r *rand.Rand, letters string, least, most int) string {
	b := make([]byte, least+r.Intn(most-least+1))
	for i := range b {
		b[i] = letters[r.Intn(len(letters))]
	}
	return string(b)
}

func seen() string {
	var b []byte
	for n := byte(33); n < 127; n++ {
		b = append(b, n)
	}
	return string(b)
}

func some(r *rand.Rand, ahead bool) spot.Place {
	p := spot.Place{IP: [4]byte{byte(r.Intn(256)), byte(r.Intn(256)), byte(r.Intn(256)), byte(1 + r.Intn(255))}, Port: uint16(1 + r.Intn(65535))}
	if ahead && r.Intn(4) == 0 {
		p.IP = [4]byte{}
	}
	return p
}

// byChance: a config that is mostly fine.
func byChance(r *rand.Rand) config.Config {
	const letters, rest = "abcdefghijklmnopqrstuvwxyz", "abcdefghijklmnopqrstuvwxyz0123456789"
	name := func() string { return from(r, letters, 1, 1) + from(r, rest+"-_", 0, 31) }
	number := func() uint64 { return r.Uint64() >> r.Intn(65) }
	c := config.Config{Version: number()}
	for range 1 + r.Intn(8) {
		x := config.Cluster{Name: name()}
		for range 1 + r.Intn(8) {
			x.Endpoints = append(x.Endpoints, config.Endpoint{Place: some(r, false), Weight: 1 + r.Intn(100)})
		}
		c.Clusters = append(c.Clusters, x)
	}
	for range r.Intn(9) {
		l := config.Listener{Name: name(), Place: some(r, true)}
		for range 1 + r.Intn(4) {
			host := from(r, rest, 1, 9) + "." + from(r, rest, 1, 9)
			if r.Intn(3) == 0 {
				host = "*." + host
			}
			l.Routes = append(l.Routes, config.Route{Host: host, Path: "/" + from(r, seen(), 0, 20), Cluster: c.Clusters[r.Intn(len(c.Clusters))].Name, Idle: number()})
		}
		c.Listeners = append(c.Listeners, l)
	}
	return c
}

func TestFineByChance(t *testing.T) { // P32.1 and P32.3
	r := rand.New(rand.NewSource(1))
	done := 0
	for range 4000 {
		c := byChance(r)
		if !valid.Fine(c) {
			continue
		}
		fine(t, c)
		done++
	}
	if done < 2000 {
		t.Errorf("only %d configs were fine", done)
	}
}

// The parts of configs that are near one another.
func webOf(ends ...config.Endpoint) config.Cluster {
	return config.Cluster{Name: "web", Endpoints: ends}
}

func listening(name string, at spot.Place, routes ...config.Route) config.Listener {
	return config.Listener{Name: name, Place: at, Routes: routes}
}

func with(clusters []config.Cluster, listeners ...config.Listener) config.Config {
	return config.Config{Version: 1, Listeners: listeners, Clusters: clusters}
}

var (
	firstEnd = config.Endpoint{Place: place(1), Weight: 1}
	otherEnd = config.Endpoint{Place: place(2), Weight: 1}
	toWeb    = config.Route{Host: "a.b", Path: "/", Cluster: "web", Idle: 1}
	toAPI    = config.Route{Host: "a.b", Path: "/x", Cluster: "api"}
	web      = webOf(firstEnd, otherEnd)
	apis     = config.Cluster{Name: "api", Endpoints: []config.Endpoint{firstEnd}}
	both     = []config.Cluster{web, apis}
)

// near: configs that are fine, of which no two are the same, though all are near one another.
func near() []config.Config {
	all := []config.Config{{}, {Version: 1}, {Version: 10}, {Version: most}, with([]config.Cluster{apis}), with([]config.Cluster{web}), with(both), with([]config.Cluster{apis, web})}
	for _, host := range []string{"a.b", "*.a.b", "a", "a-b", "1"} {
		for _, path := range []string{"/", "/-", "/?", "/x", "/x/", "/x=1", "/web", "/0"} {
			for _, cluster := range []string{"web", "api"} {
				for _, idle := range []uint64{0, 1, 10, most} {
					all = append(all, with(both, listening("a", place(80), config.Route{Host: host, Path: path, Cluster: cluster, Idle: idle})))
				}
			}
		}
	}
	for _, weight := range []int{2, 10, 100} {
		for _, port := range []uint16{1, 10, 11, 65535} {
			end := config.Endpoint{Place: place(port), Weight: weight}
			all = append(all, with([]config.Cluster{webOf(end)}), with([]config.Cluster{webOf(end, otherEnd)}), with([]config.Cluster{webOf(otherEnd, end)}))
		}
	}
	return append(all, nearListeners()...)
}

func nearListeners() []config.Config {
	one, other := place(80), place(81)
	return []config.Config{
		with(both, listening("b", one, toWeb)),
		with(both, listening("b", other, toWeb)),
		with(both, listening("a", one, toWeb), listening("b", other, toWeb)),
		with(both, listening("b", other, toWeb), listening("a", one, toWeb)),
		with(both, listening("a", other, toWeb), listening("b", one, toWeb)),
		with(both, listening("a", one, toWeb, toAPI), listening("b", other, toAPI)),
		with(both, listening("a", one, toAPI), listening("b", other, toWeb, toAPI)),
		with(both, listening("a", one, toAPI), listening("b", other, toAPI, toWeb)),
		with(both, listening("a", spot.Place{Port: 80}, toAPI), listening("b", other, toWeb)),
		with(both, listening("a", spot.Place{IP: [4]byte{1, 27, 0, 1}, Port: 80}, toAPI), listening("b", other, toWeb)),
	}
}

func TestNoTwoHaveTheSameLines(t *testing.T) { // P32.3
	seen := map[string]int{}
	all := near()
	for i, c := range all {
		is(t, "is it fine", valid.Fine(c), true)
		fine(t, c)
		whole := report.Whole(report.Config(c))
		if k, there := seen[whole]; there {
			t.Errorf("%v and %v have the same lines: %q", all[k], c, whole)
		}
		seen[whole] = i
	}
	if len(all) < 300 {
		t.Errorf("only %d configs", len(all))
	}
}
