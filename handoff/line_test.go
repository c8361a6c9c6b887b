package handoff_test

import (
	"math/rand"
	"slices"
	"testing"

	"outrider/api"
	"outrider/handoff"
	"outrider/spot"
)

// A line by hand, between a giver and a taker, that loses, doubles and turns about.
type line struct {
	giver  handoff.Giver
	taker  handoff.Taker
	down   []string // to the taker
	up     []string // to the giver
	opened map[spot.Place]int
}

// lineOf: one on which there is something of other epochs, and of other kinds, too.
func lineOf(epoch uint64, l ...spot.Place) *line {
	stale := []string{token(epoch-1, l[0]), taken(epoch-1, l[0]), token(epoch+1, l[0]), taken(epoch+1, l[0]), taken(epoch, at(1, 1, 1, 1, 1)), "x"}
	return &line{
		giver:  handoff.Give(epoch, l...),
		taker:  handoff.Taker{Epoch: epoch},
		down:   slices.Clone(stale),
		up:     stale,
		opened: map[spot.Place]int{},
	}
}

// pick takes one from a list, by chance, or lets it be there still.
func pick(r *rand.Rand, l *[]string) string {
	i := r.Intn(len(*l))
	text := (*l)[i]
	if r.Intn(3) > 0 {
		*l = slices.Delete(slices.Clone(*l), i, i+1)
	}
	return text
}

func (x *line) send() { x.down = append(x.down, x.giver.Messages()...) }

// takes: a text comes to the taker; what it answers is sent, but for some that is lost.
func (x *line) takes(r *rand.Rand, text string, loses bool) {
	k, p, answer, e := x.taker.Take(text)
	x.taker = k
	if e == api.OK {
		x.opened[p]++
	}
	if answer != "" && !(loses && r.Intn(2) == 0) {
		x.up = append(x.up, answer)
	}
}

func (x *line) gives(text string) { x.giver, _ = x.giver.Take(text) }

// stir does one thing on the line, by chance.
func (x *line) stir(r *rand.Rand) {
	switch r.Intn(6) {
	case 0:
		x.send()
	case 1:
		if len(x.down) > 0 {
			pick(r, &x.down) // which is lost, or not
		}
	case 2, 3:
		if len(x.down) > 0 {
			x.takes(r, pick(r, &x.down), true)
		}
	default:
		if len(x.up) > 0 {
			x.gives(pick(r, &x.up))
		}
	}
}

// holds: is each place given, or taken, and none taken twice?
func (x *line) holds(t *testing.T, l []spot.Place) {
	t.Helper()
	for _, p := range l {
		took := slices.Contains(x.taker.Took, p)
		is(t, "is it taken, or given still", took || slices.Contains(x.giver.Given, p), true)
		is(t, "how often it was taken", x.opened[p], map[bool]int{true: 1}[took])
	}
	is(t, "how many were taken", len(x.opened), len(x.taker.Took))
}

// end sends once more what is given still, and delivers all, in any order.
func (x *line) end(r *rand.Rand) {
	x.send()
	r.Shuffle(len(x.down), func(i, j int) { x.down[i], x.down[j] = x.down[j], x.down[i] })
	for _, text := range x.down {
		x.takes(r, text, false)
	}
	for _, i := range r.Perm(len(x.up)) {
		x.gives(x.up[i])
	}
}

func TestOverALine(t *testing.T) { // P26.4
	r := rand.New(rand.NewSource(28))
	for n := range 400 {
		l := places()[:1+n%len(places())]
		x := lineOf(1+uint64(n), append(l, l...)...)
		for range 60 {
			x.stir(r)
			x.holds(t, l)
		}
		x.end(r)
		x.holds(t, l)
		is(t, "Done in the end", x.giver.Done(), true)
		same(t, "what is taken in the end", x.taker.Took, l)
		if t.Failed() {
			return
		}
	}
}
