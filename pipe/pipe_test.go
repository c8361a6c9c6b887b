package pipe_test

import (
	"math"
	"math/rand"
	"slices"
	"strconv"
	"strings"
	"testing"
	"unsafe"

	"outrider/api"
	"outrider/pipe"
)

const most = math.MaxUint64

func is[T comparable](t *testing.T, what string, got, wanted T) {
	t.Helper()
	if got != wanted {
		t.Errorf("%s: %v, wanted %v", what, got, wanted)
	}
}

// holds: is that on the pipe, in order?
func holds(t *testing.T, what string, p pipe.Pipe, wanted ...pipe.Item) {
	t.Helper()
	if got := p.All(); !slices.Equal(got, wanted) {
		t.Errorf("%s: All: %v, wanted %v", what, got, wanted)
	}
	is(t, what+": Len", p.Len(), len(wanted))
}

// made: a pipe on which that was sent.
func made(l ...pipe.Item) pipe.Pipe {
	var p pipe.Pipe
	for _, x := range l {
		p = p.Send(x.To, x.Text)
	}
	return p
}

// numbered: items for three, by turns, with the numbers' texts.
func numbered(from, to int) []pipe.Item {
	var l []pipe.Item
	for i := from; i < to; i++ {
		l = append(l, pipe.Item{To: uint64(i % 3), Text: strconv.Itoa(i)})
	}
	return l
}

// but: without the i-th.
func but(l []pipe.Item, i int) []pipe.Item { return slices.Delete(slices.Clone(l), i, i+1) }

// some: items whose receivers and texts are ends of what may be, some there twice.
func some() []pipe.Item {
	return []pipe.Item{{1, "a"}, {0, ""}, {most, "\x00\xff"}, {1, "a"}, {2, "a"}, {1, strings.Repeat("long", 5000)}}
}

// outside: places where nothing is, of so many.
func outside(n int) []int {
	return []int{-1, n, n + 1, -n - 1, 64, 1 << 32, math.MaxInt, math.MinInt}
}

func TestZero(t *testing.T) { // P25.1: the zero pipe is empty
	var zero pipe.Pipe
	holds(t, "the zero one", zero)
	holds(t, "Clear of the zero one", zero.Clear(0))
	for _, i := range append(outside(0), 0, 1) {
		p, x, e := zero.Deliver(i)
		is(t, "Deliver", e, api.ErrNone)
		is(t, "what is delivered", x, pipe.Item{})
		holds(t, "beside ErrNone", p)
		p, e = zero.Double(i)
		is(t, "Double", e, api.ErrNone)
		holds(t, "beside ErrNone", p)
		p, e = zero.Lose(i)
		is(t, "Lose", e, api.ErrNone)
		holds(t, "beside ErrNone", p)
	}
}

func TestSend(t *testing.T) { // P25.1
	var p pipe.Pipe
	for i, x := range some() {
		p = p.Send(x.To, x.Text)
		holds(t, "Send", p, some()[:i+1]...)
	}
}

func TestSendWithoutRoom(t *testing.T) { // P25.1: of 64 the first goes
	for n := range 200 {
		holds(t, "Send", made(numbered(0, n)...), numbered(max(0, n-64), n)...)
	}
	p, e := made(numbered(0, 64)...).Lose(10)
	is(t, "Lose", e, api.OK)
	p = p.Send(5, "five")
	holds(t, "Send where one was lost", p, append(but(numbered(0, 64), 10), pipe.Item{To: 5, Text: "five"})...)
}

func TestDeliver(t *testing.T) { // P25.1
	for _, l := range [][]pipe.Item{some(), numbered(0, 1), numbered(0, 64)} {
		for i, wanted := range l {
			p, x, e := made(l...).Deliver(i)
			is(t, "Deliver", e, api.OK)
			is(t, "what is delivered", x, wanted)
			holds(t, "without it", p, but(l, i)...)
		}
		for _, i := range outside(len(l)) {
			p, x, e := made(l...).Deliver(i)
			is(t, "Deliver of none", e, api.ErrNone)
			is(t, "what is delivered beside ErrNone", x, pipe.Item{})
			holds(t, "beside ErrNone", p, l...)
		}
	}
}

func TestDouble(t *testing.T) { // P25.1
	for _, l := range [][]pipe.Item{some(), numbered(0, 1), numbered(0, 63), numbered(0, 64)} {
		for i, x := range l {
			p, e := made(l...).Double(i)
			is(t, "Double", e, api.OK)
			wanted := append(slices.Clone(l), x)
			holds(t, "with it once more", p, wanted[max(0, len(wanted)-64):]...)
		}
		for _, i := range outside(len(l)) {
			p, e := made(l...).Double(i)
			is(t, "Double of none", e, api.ErrNone)
			holds(t, "beside ErrNone", p, l...)
		}
	}
}

func TestLose(t *testing.T) { // P25.1
	for _, l := range [][]pipe.Item{some(), numbered(0, 1), numbered(0, 64)} {
		for i := range l {
			p, e := made(l...).Lose(i)
			is(t, "Lose", e, api.OK)
			holds(t, "without it", p, but(l, i)...)
		}
		for _, i := range outside(len(l)) {
			p, e := made(l...).Lose(i)
			is(t, "Lose of none", e, api.ErrNone)
			holds(t, "beside ErrNone", p, l...)
		}
	}
}

func TestClear(t *testing.T) { // P25.1
	for _, l := range [][]pipe.Item{nil, some(), numbered(0, 1), numbered(0, 64)} {
		for _, to := range []uint64{0, 1, 2, 3, 1 << 32, most - 1, most} {
			var wanted []pipe.Item
			for _, x := range l {
				if x.To != to {
					wanted = append(wanted, x)
				}
			}
			p := made(l...).Clear(to)
			holds(t, "Clear", p, wanted...)
			holds(t, "Send behind Clear", p.Send(to, "x"), append(wanted, pipe.Item{To: to, Text: "x"})[max(0, len(wanted)-63):]...)
		}
	}
}

func TestPipesStayAsTheyWere(t *testing.T) { // P25.1, and the rule on memory
	for _, n := range []int{0, 1, 2, 3, 5, 31, 63, 64} {
		l := numbered(0, n)
		p := made(l...)
		one, other := p.Send(7, "one"), p.Send(8, "other")
		doubled, _ := p.Double(n - 1)
		delivered, _, _ := p.Deliver(n - 1)
		lost, _ := p.Lose(0)
		cleared := p.Clear(1)
		again := []pipe.Pipe{one.Send(9, "x"), delivered.Send(9, "y"), lost.Send(9, "z"), cleared.Send(9, "w"), doubled.Send(9, "v")}
		for _, q := range append(again, p, one, other, doubled, delivered, lost, cleared) {
			all := q.All()
			clear(all[:cap(all)])
		}
		from := max(0, n-63)
		holds(t, "the pipe", p, l...)
		holds(t, "with one more", one, append(slices.Clone(l[from:]), pipe.Item{To: 7, Text: "one"})...)
		holds(t, "with another more", other, append(slices.Clone(l[from:]), pipe.Item{To: 8, Text: "other"})...)
		if n > 0 {
			holds(t, "with one doubled", doubled, append(slices.Clone(l[from:]), l[n-1])...)
			holds(t, "with one delivered", delivered, l[:n-1]...)
			holds(t, "with one lost", lost, l[1:]...)
			holds(t, "delivered, and one sent", again[1], append(slices.Clone(l[:n-1]), pipe.Item{To: 9, Text: "y"})...)
		}
	}
}

func TestTextsAreNew(t *testing.T) { // the rule on memory: texts are neither kept nor handed out twice
	raw := []byte("handed in")
	p := made(pipe.Item{To: 1, Text: "ahead"}).Send(1, unsafe.String(&raw[0], len(raw)))
	copy(raw, "turned!!!")
	p, _ = p.Double(1)
	_, first, _ := p.Deliver(1)
	_, second, _ := p.Deliver(1)
	_, third, _ := p.Deliver(2)
	seen := map[*byte]bool{}
	for _, x := range []pipe.Item{first, second, third, p.All()[1], p.All()[1], p.All()[2]} {
		is(t, "the text", x.Text, "handed in")
		seen[unsafe.StringData(x.Text)] = true
	}
	is(t, "how many texts share no memory", len(seen), 6)
}

// A model by hand: what is on the pipe.
type model []pipe.Item

func (m *model) send(x pipe.Item) {
	if len(*m) == 64 {
		*m = (*m)[1:]
	}
	*m = append(*m, x)
}

func (m *model) take(i int) (pipe.Item, api.Errno) {
	if i < 0 || i >= len(*m) {
		return pipe.Item{}, api.ErrNone
	}
	x := (*m)[i]
	*m = but(*m, i)
	return x, api.OK
}

// step does one thing by chance, to a pipe and to the model, and answers the pipe then.
func step(t *testing.T, r *rand.Rand, p pipe.Pipe, m *model) pipe.Pipe {
	t.Helper()
	to, text, i := uint64(r.Intn(5)), strconv.Itoa(r.Intn(1000)), r.Intn(len(*m)+3)-1
	switch r.Intn(12) {
	default:
		m.send(pipe.Item{To: to, Text: text})
		return p.Send(to, text)
	case 0, 1:
		p, x, e := p.Deliver(i)
		y, f := m.take(i)
		is(t, "what is delivered", x, y)
		is(t, "Deliver", e, f)
		return p
	case 2:
		p, e := p.Lose(i)
		_, f := m.take(i)
		is(t, "Lose", e, f)
		return p
	case 3, 4:
		p, e := p.Double(i)
		there := i >= 0 && i < len(*m)
		is(t, "Double", e == api.OK, there)
		if there {
			m.send((*m)[i])
		}
		return p
	case 5:
		if r.Intn(8) > 0 {
			return p
		}
		*m = slices.DeleteFunc(slices.Clone(*m), func(x pipe.Item) bool { return x.To == to })
		return p.Clear(to)
	}
}

func TestByChance(t *testing.T) { // P25.1
	r := rand.New(rand.NewSource(25))
	for range 200 {
		var p pipe.Pipe
		var m model
		for range 300 {
			p = step(t, r, p, &m)
			holds(t, "by chance", p, m...)
		}
		if t.Failed() {
			return
		}
	}
}

func TestWhatIsDeliveredWasSent(t *testing.T) { // P25.2
	r := rand.New(rand.NewSource(26))
	for range 100 {
		var p pipe.Pipe
		sent := map[pipe.Item]int{}
		for n := range 300 {
			x := pipe.Item{To: uint64(r.Intn(3)), Text: strconv.Itoa(n)}
			p = p.Send(x.To, x.Text)
			sent[x]++
			for range r.Intn(3) {
				i := r.Intn(p.Len() + 1)
				switch r.Intn(3) {
				case 0:
					if q, e := p.Double(i); e == api.OK {
						sent[p.All()[i]]++ // as if it were sent again
						p = q
					}
				case 1:
					p, _ = p.Lose(i)
				case 2:
					var y pipe.Item
					var e api.Errno
					if p, y, e = p.Deliver(i); e == api.OK {
						is(t, "was it sent, as often as it is delivered", sent[y] > 0, true)
						sent[y]--
					}
				}
			}
		}
		for p.Len() > 0 {
			var y pipe.Item
			p, y, _ = p.Deliver(r.Intn(p.Len()))
			is(t, "was what is left sent", sent[y] > 0, true)
			sent[y]--
		}
	}
}
