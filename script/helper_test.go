package script_test

import (
	"encoding/hex"
	"fmt"
	"math"
	"slices"
	"strings"
	"testing"

	"outrider/agent"
	"outrider/api"
	"outrider/backoff"
	"outrider/config"
	"outrider/finger"
	"outrider/machine"
	"outrider/script"
	"outrider/session"
	"outrider/spot"
)

const (
	most    = math.MaxUint64
	forever = 1 << 40 // of a fuse: none
)

// The kinds, by their numbers in layer 30's chapter.
const (
	message = 0
	tick    = 1
	lost    = 2
	ready   = 3
	died    = 4
	deliver = 5
	double  = 6
	lose    = 7
	accept  = 8
	shut    = 9
	take    = 10
	clean   = 11
	fuse    = 12
	crash   = 13
)

// names: the words, in the kinds' order.
var names = [14]string{"text", "tick", "lost", "ready", "died", "deliver", "double", "lose", "accept", "shut", "take", "clean", "fuse", "crash"}

func is[T comparable](t *testing.T, what string, got, wanted T) {
	t.Helper()
	if got != wanted {
		t.Errorf("%s: %v, wanted %v", what, got, wanted)
	}
}

// lists: have two lists the same elements?
func lists[T comparable](t *testing.T, what string, got []T, wanted ...T) {
	t.Helper()
	if !slices.Equal(got, wanted) {
		t.Errorf("%s: %v, wanted %v", what, got, wanted)
	}
}

// same: are two events the same, where a list without elements is nil or empty?
func same(a, b machine.Event) bool {
	return a.Kind == b.Kind && a.N == b.N && a.Text == b.Text && a.Host == b.Host && a.Path == b.Path &&
		slices.Equal(a.Names, b.Names) && slices.Equal(a.Sectors, b.Sectors)
}

// parses holds a text to being that of these events.
func parses(t *testing.T, text string, wanted ...machine.Event) {
	t.Helper()
	l, line, e := script.Parse(text)
	if e != api.OK || line != 0 || !slices.EqualFunc(l, wanted, same) {
		t.Errorf("Parse of %q: %v, line %d, %v, wanted %v", text, l, line, e, wanted)
	}
}

// refuses holds a text to having that line first that is no event's.
func refuses(t *testing.T, text string, wanted int) {
	t.Helper()
	l, line, e := script.Parse(text)
	if e != api.ErrSyntax || line != wanted || len(l) != 0 {
		t.Errorf("Parse of %q: %v, line %d, %v, wanted the line %d", text, l, line, e, wanted)
	}
}

// prints holds events to their text.
func prints(t *testing.T, wanted string, l ...machine.Event) {
	t.Helper()
	s, e := script.Print(l...)
	if e != api.OK || s != wanted {
		t.Errorf("Print of %v: %q, %v, wanted %q", l, s, e, wanted)
	}
}

// written: an event's line by hand, by the chapter's words.
func written(e machine.Event) string {
	text := func(s string) string {
		if s == "" {
			return "."
		}
		return hex.EncodeToString([]byte(s))
	}
	switch e.Kind {
	case message, clean:
		return fmt.Sprintf("%s %s", names[e.Kind], text(e.Text))
	case lost, take:
		return names[e.Kind]
	case accept:
		return fmt.Sprintf("accept %d %s %s %s", e.N, text(e.Text), text(e.Host), text(e.Path))
	case crash:
		flags := ""
		for _, b := range e.Names {
			flags += map[bool]string{true: "1", false: "0"}[b]
		}
		if flags == "" {
			flags = "."
		}
		s := fmt.Sprintf("crash %d %s", e.N, flags)
		for _, n := range e.Sectors {
			s += fmt.Sprintf(" %d", n)
		}
		return s
	}
	return fmt.Sprintf("%s %d", names[e.Kind], e.N)
}

// whole: lines, with their ends.
func whole(l ...machine.Event) string {
	var s strings.Builder
	for _, e := range l {
		s.WriteString(written(e) + "\n")
	}
	return s.String()
}

// A machine's things.

func of(kind int, n uint64) machine.Event { return machine.Event{Kind: kind, N: n} }

// shared: a place that all configs of on listen at.
const shared = "0.0.0.0:80"

// on: a config that is fine, and listens at the shared place and at a port of its own; of another port it has another print.
func on(port uint16) config.Config {
	routes := []config.Route{{Host: "a.b", Path: "/", Cluster: "web", Idle: 100}}
	return config.Config{
		Version:   1000 + uint64(port),
		Listeners: []config.Listener{{Name: "main", Place: spot.Place{Port: 80}, Routes: routes}, {Name: "own", Place: spot.Place{Port: port}, Routes: routes}},
		Clusters:  []config.Cluster{{Name: "web", Endpoints: []config.Endpoint{{Place: spot.Place{IP: [4]byte{10}, Port: 8080}, Weight: 1}}}},
	}
}

// offer: of an epoch.
func offer(epoch, nonce uint64, c config.Config) machine.Event {
	s, e := c.Bytes()
	if e != api.OK {
		panic(e)
	}
	return machine.Event{Text: session.Message(session.Offered, epoch, s, c.Version, nonce)}
}

func comes(id uint64, at, host, path string) machine.Event {
	return machine.Event{Kind: accept, N: id, Text: at, Host: host, Path: path}
}

func cleared(c config.Config) machine.Event {
	p, e := finger.Of(c)
	if e != api.OK {
		panic(e)
	}
	return machine.Event{Kind: clean, Text: finger.Text(p)}
}

func fresh(t *testing.T, k int) *machine.Machine {
	t.Helper()
	m, e := machine.New(api.MaxDisk, agent.Setting{K: k, Drain: 5, Wait: backoff.Wait{Base: 2, Cap: 8}})
	if e != api.OK || m == nil {
		t.Fatalf("New: %v", e)
	}
	return m
}

// runs holds a machine to what it answers to these events, as a text.
func runs(t *testing.T, m *machine.Machine, l []machine.Event, wanted ...string) {
	t.Helper()
	got, e := script.Run(m, whole(l...))
	is(t, "Run", e, api.OK)
	lists(t, "Run", got, wanted...)
}

// told: an answer by hand.
func told(a machine.Answer) string {
	text := "."
	if a.Text != "" {
		text = hex.EncodeToString([]byte(a.Text))
	}
	return fmt.Sprintf("%s %d %d", text, a.Who, int(a.Code))
}
