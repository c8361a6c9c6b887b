package script_test

import (
	"math/rand"
	"slices"
	"strings"
	"testing"

	"outrider/agent"
	"outrider/api"
	"outrider/machine"
	"outrider/script"
	"outrider/session"
)

func one[T any](r *rand.Rand, l ...T) T { return l[r.Intn(len(l))] }

func bytes(r *rand.Rand) string {
	b := make([]byte, one(r, 0, 1, 2, r.Intn(9), r.Intn(40)))
	r.Read(b)
	return string(b)
}

// some: an event by chance, with what its kind tells.
func some(r *rand.Rand) machine.Event {
	x := of(r.Intn(14), 0)
	if strings.Contains(tells[x.Kind], "N") {
		x.N = r.Uint64() >> r.Intn(65)
	}
	if strings.Contains(tells[x.Kind], "Text") {
		x.Text = bytes(r)
	}
	if x.Kind == accept {
		x.Host, x.Path = bytes(r), bytes(r)
	}
	if x.Kind == crash {
		for range one(r, 0, 1, r.Intn(9)) {
			x.Names = append(x.Names, r.Intn(2) == 0)
		}
		for range one(r, 0, 1, r.Intn(9)) {
			x.Sectors = append(x.Sectors, r.Uint64()>>r.Intn(65))
		}
	}
	return x
}

func TestPrintedIsParsed(t *testing.T) { // P31.1 to P31.3
	r := rand.New(rand.NewSource(1))
	for range 4000 {
		var l []machine.Event
		for range r.Intn(12) {
			l = append(l, some(r))
		}
		text := whole(l...)
		prints(t, text, l...)
		parses(t, text, l...)
	}
}

// meant holds a text to being printed as it was, if it is parsed, and else to being refused at the first line that is none by itself.
func meant(t *testing.T, text string) bool {
	t.Helper()
	l, line, e := script.Parse(text)
	if e == api.OK {
		is(t, "the line", line, 0)
		prints(t, text, l...)
		is(t, "events", len(l), strings.Count(text, "\n"))
		return true
	}
	is(t, "Parse of "+text, e, api.ErrSyntax)
	is(t, "events", len(l), 0)
	lines := strings.SplitAfter(text, "\n")
	if line < 1 || line > len(lines) {
		t.Fatalf("Parse of %q: line %d", text, line)
	}
	_, _, e = script.Parse(strings.Join(lines[:line-1], ""))
	is(t, "what is ahead of the line of "+text, e, api.OK)
	_, at, e := script.Parse(lines[line-1])
	is(t, "that line alone of "+text, e, api.ErrSyntax)
	is(t, "its number", at, 1)
	return false
}

func TestEachByteTurned(t *testing.T) { // P31.2 and P31.3: what is parsed is printed so
	fine := 0
	for line := range someLines() {
		if len(line) > 80 {
			continue
		}
		text := "lost\n" + line + "\ntick 10\n"
		for i := range len(text) {
			for n := range 256 {
				b := []byte(text)
				b[i] = byte(n)
				if meant(t, string(b)) {
					fine++
				}
			}
			meant(t, text[:i]+text[i+1:])
			meant(t, text[:i]+text[i:i+1]+text[i:])
			meant(t, text[:i]+" "+text[i:])
			meant(t, text[:i]+"0"+text[i:])
			meant(t, text[:i]+"\n"+text[i:])
		}
	}
	if fine < 1000 {
		t.Errorf("parsed only %d times", fine)
	}
}

func TestParsedIsPrinted(t *testing.T) { // P31.2 and P31.3: texts of such parts by chance
	r := rand.New(rand.NewSource(2))
	fine := 0
	for range 40000 {
		text := ""
		for range 1 + r.Intn(2) {
			kind := r.Intn(14)
			text += names[kind]
			for range len(strings.Fields(tells[kind])) + one(r, 0, 0, 0, 0, 1, 2, -1) {
				text += one(r, " ", " ", " ", " ", " ", " ", " ", " ", "", "  ", "\t") + one(r, ".", "0", "1", "10", "11", "00", "ff", "1f", "18446744073709551615", "18446744073709551616", "100", "A1")
			}
			text += one(r, "\n", "\n", "\n", "\n", "\n", "\n", "\n", "", " \n", "\r\n")
		}
		if meant(t, text) {
			fine++
		}
	}
	if fine < 4000 || fine > 36000 {
		t.Errorf("parsed %d times", fine)
	}
}

// befalls: an event by chance, of which most do something.
func befalls(r *rand.Rand, a *agent.Agent) machine.Event {
	x := some(r)
	s := a.Session()
	id := one(r, x.N, 1, 2, 3)
	if l := a.Crew().Gens(); len(l) > 0 {
		id = one(r, l...).ID()
	}
	switch r.Intn(12) {
	case 0, 1:
		x = offer(s.Epoch, s.Nonce+uint64(r.Intn(3)), on(uint16(81+r.Intn(3))))
	case 2:
		x = machine.Event{Text: session.Message(session.Offered, s.Epoch, "x", 1, s.Nonce+1)}
	case 3, 4:
		x = of(tick, uint64(r.Intn(5)))
	case 5, 6:
		x = of(one(r, ready, ready, died), id)
	case 7:
		x = of(one(r, deliver, double, lose), 0)
	case 8:
		x = comes(uint64(r.Intn(9)), shared, one(r, "a.b", "q"), "/")
	case 9:
		x = of(take, 0)
	case 10:
		x = cleared(on(uint16(81 + r.Intn(3))))
	}
	if x.Kind == fuse || x.Kind == crash {
		x.N = one(r, uint64(r.Intn(9)), forever)
	}
	return x
}

func TestRunByChance(t *testing.T) { // P31.2: what the machine answers, event by event
	codes, texts, who := map[api.Errno]int{}, 0, 0
	for seed := range int64(150) {
		r := rand.New(rand.NewSource(seed))
		k := 1 + r.Intn(3)
		m, twin := fresh(t, k), fresh(t, k)
		for range 30 {
			var l []machine.Event
			var wanted []string
			for range r.Intn(9) {
				e := befalls(r, twin.Agent())
				x := twin.Do(e)
				l, wanted = append(l, e), append(wanted, told(x))
				codes[x.Code]++
				texts, who = texts+min(len(x.Text), 1), who+int(min(x.Who, 1))
			}
			got, e := script.Run(m, whole(l...))
			is(t, "Run", e, api.OK)
			lists(t, "Run", got, wanted...)
			is(t, "Status", m.Status(), twin.Status())
			is(t, "the disk", slices.Equal(m.Disk().Names(), twin.Disk().Names()) && m.Disk().Steps() == twin.Disk().Steps(), true)
			if t.Failed() {
				t.Fatalf("seed %d", seed)
			}
		}
	}
	for _, e := range []api.Errno{api.OK, api.ErrForm, api.ErrTwice, api.ErrNone, api.ErrPower, api.ErrStop} {
		if codes[e] < 20 {
			t.Errorf("%v came only %d times", e, codes[e])
		}
	}
	if texts < 50 || who < 50 {
		t.Errorf("only %d texts, %d connections", texts, who)
	}
}
