package handoff_test

import (
	"math"
	"math/rand"
	"slices"
	"testing"

	"outrider/api"
	"outrider/handoff"
	"outrider/spot"
)

func TestKinds(t *testing.T) { // P26.1
	is(t, "Token", handoff.Token, 16)
	is(t, "Taken", handoff.Taken, 17)
}

func TestMessage(t *testing.T) { // P26.1
	for _, epoch := range epochs() {
		for _, p := range append(places(), spot.Place{}, at(1, 2, 3, 4, 0)) {
			is(t, "a token", handoff.Message(handoff.Token, epoch, p), token(epoch, p))
			is(t, "a taken", handoff.Message(handoff.Taken, epoch, p), taken(epoch, p))
		}
	}
	p := places()[3]
	for kind := 1; kind < 256; kind++ {
		is(t, "a message of a frame's kind", handoff.Message(kind, 9, p), framed(byte(kind), 9, body(p)))
	}
	for _, kind := range []int{0, -1, -16, 256, 256 + 16, 256 + 17, 1<<32 + 16, math.MinInt, math.MaxInt} {
		is(t, "a message of no frame's kind", handoff.Message(kind, 9, p), "")
	}
}

func TestRead(t *testing.T) { // P26.1
	for _, epoch := range epochs() {
		for _, p := range places() {
			for kind, text := range map[int]string{16: token(epoch, p), 17: taken(epoch, p)} {
				k, n, q, e := handoff.Read(text)
				is(t, "the kind", k, kind)
				is(t, "the epoch", n, epoch)
				is(t, "the place", q, p)
				is(t, "Read", e, api.OK)
			}
		}
	}
}

func TestReadOfNone(t *testing.T) { // P26.1
	for what, text := range wrong() {
		k, n, p, e := handoff.Read(text)
		is(t, "Read of "+what, e, api.ErrForm)
		is(t, "beside ErrForm, of "+what, k == 0 && n == 0 && p == spot.Place{}, true)
	}
	fine := []byte(taken(7, places()[3]))
	for i := range 8 * len(fine) { // each bit turned
		fine[i/8] ^= 1 << (i % 8)
		_, _, _, e := handoff.Read(string(fine))
		is(t, "Read of a bit turned", e, api.ErrForm)
		fine[i/8] ^= 1 << (i % 8)
	}
}

func TestGive(t *testing.T) { // P26.2
	r := rand.New(rand.NewSource(26))
	for _, epoch := range epochs() {
		giver(t, "Give without places", handoff.Give(epoch), epoch)
		giver(t, "Give of one", handoff.Give(epoch, places()[4]), epoch, places()[4])
		giver(t, "Give of one, thrice", handoff.Give(epoch, places()[4], places()[4], places()[4]), epoch, places()[4])
		giver(t, "Give of all", handoff.Give(epoch, places()...), epoch, places()...)
		for n := range places() {
			l := places()[n:]
			l = append(l, l...)
			r.Shuffle(len(l), func(i, j int) { l[i], l[j] = l[j], l[i] })
			giver(t, "Give of places in any order, some twice", handoff.Give(epoch, l...), epoch, places()[n:]...)
		}
	}
	is(t, "the zero giver is Done", handoff.Giver{}.Done(), true)
	is(t, "it has messages", len(handoff.Giver{}.Messages()), 0)
}

func TestGiverTakes(t *testing.T) { // P26.2
	for _, epoch := range epochs() {
		g := handoff.Give(epoch, places()...)
		for i, p := range places() {
			then, e := g.Take(taken(epoch, p))
			is(t, "Take", e, api.OK)
			giver(t, "without the place", then, epoch, slices.Delete(places(), i, i+1)...)
			again, e := then.Take(taken(epoch, p))
			is(t, "Take of a place that it hasn't any more", e, api.OK)
			giver(t, "as it was", again, epoch, slices.Delete(places(), i, i+1)...)
		}
		then, e := g.Take(taken(epoch, at(1, 1, 1, 1, 1)))
		is(t, "Take of a place that it hasn't had", e, api.OK)
		giver(t, "as it was", then, epoch, places()...)
		then, e = g.Take(taken(epoch, at(127, 0, 0, 1, 1))) // of which only the address is there
		is(t, "Take of another port", e, api.OK)
		giver(t, "as it was", then, epoch, places()...)
		for i, p := range places() {
			is(t, "is it Done ahead of the last", g.Done(), false)
			g, e = g.Take(taken(epoch, p))
			is(t, "Take of one behind the other", e, api.OK)
			giver(t, "what is left", g, epoch, places()[i+1:]...)
		}
		g, e = g.Take(taken(epoch, places()[0]))
		is(t, "Take of one that is Done", e, api.OK)
		giver(t, "Done as it was", g, epoch)
	}
}

func TestGiverRefuses(t *testing.T) { // P26.2
	l := places()
	refuses := func(what string, g handoff.Giver, text string, wanted api.Errno) {
		t.Helper()
		then, e := g.Take(text)
		is(t, "Take of "+what, e, wanted)
		giver(t, "beside the error, of "+what, then, g.Epoch, g.Given...)
	}
	for _, g := range []handoff.Giver{handoff.Give(7, l...), handoff.Give(7), {}} {
		for what, text := range wrong() {
			refuses(what, g, text, api.ErrForm)
		}
	}
	for _, epoch := range epochs() {
		g := handoff.Give(epoch, l...)
		for _, other := range epochs() {
			refuses("a token", g, token(other, l[0]), api.ErrKind) // ahead of the epoch
			if other != epoch {
				refuses("another epoch's", g, taken(other, l[0]), api.ErrStale)
				refuses("another epoch's, of a place that it hasn't", g, taken(other, at(1, 1, 1, 1, 1)), api.ErrStale)
			}
		}
	}
	is(t, "the zero giver is of the epoch 0", second(handoff.Giver{}.Take(taken(0, l[0]))), api.OK)
}

// second: the error of two answers.
func second[T any](_ T, e api.Errno) api.Errno { return e }

func TestTakerTakes(t *testing.T) { // P26.3
	r := rand.New(rand.NewSource(27))
	for _, epoch := range epochs() {
		for range 20 {
			k := handoff.Taker{Epoch: epoch}
			var took []spot.Place
			for _, i := range r.Perm(len(places())) {
				p := places()[i]
				then, q, answer, e := k.Take(token(epoch, p))
				is(t, "Take", e, api.OK)
				is(t, "the place", q, p)
				is(t, "the Taken", answer, taken(epoch, p))
				taker(t, "as it was", k, epoch, took...)
				took = append(slices.Clone(took), p)
				slices.SortFunc(took, spot.Cmp)
				taker(t, "with the place", then, epoch, took...)
				k = then
			}
			for _, p := range places() {
				then, q, answer, e := k.Take(token(epoch, p))
				is(t, "Take once more", e, api.ErrTwice)
				is(t, "the place beside ErrTwice", q, spot.Place{})
				is(t, "the Taken once more", answer, taken(epoch, p))
				taker(t, "beside ErrTwice", then, epoch, places()...)
			}
		}
	}
}

func TestTakerRefuses(t *testing.T) { // P26.3
	l := places()
	refuses := func(what string, k handoff.Taker, text string, wanted api.Errno) {
		t.Helper()
		then, p, answer, e := k.Take(text)
		is(t, "Take of "+what, e, wanted)
		is(t, "the place, of "+what, p, spot.Place{})
		is(t, "the text, of "+what, answer, "")
		taker(t, "beside the error, of "+what, then, k.Epoch, k.Took...)
	}
	for _, k := range []handoff.Taker{{Epoch: 7, Took: l}, {Epoch: 7}, {}} {
		for what, text := range wrong() {
			refuses(what, k, text, api.ErrForm)
		}
	}
	for _, epoch := range epochs() {
		for _, k := range []handoff.Taker{{Epoch: epoch, Took: l}, {Epoch: epoch}} {
			for _, other := range epochs() {
				refuses("a taken", k, taken(other, l[0]), api.ErrKind) // ahead of the epoch
				if other != epoch {
					refuses("another epoch's", k, token(other, l[0]), api.ErrStale) // ahead of ErrTwice
				}
			}
		}
	}
	_, _, _, e := handoff.Taker{}.Take(token(0, l[0]))
	is(t, "the zero taker is of the epoch 0", e, api.OK)
}

func TestWrittenByHand(t *testing.T) { // P26.2, P26.3: fields may have any values
	a, b, c := places()[2], places()[5], places()[8]
	g := handoff.Giver{Epoch: 3, Given: []spot.Place{c, a, b, a}}
	same(t, "Messages", g.Messages(), []string{token(3, c), token(3, a), token(3, b), token(3, a)})
	then, e := g.Take(taken(3, a))
	is(t, "Take", e, api.OK)
	giver(t, "without the place", then, 3, c, b)
	g = handoff.Giver{Epoch: 3, Given: []spot.Place{{}, a}}
	same(t, "Messages with a port 0", g.Messages(), []string{token(3, spot.Place{}), token(3, a)})
	k := handoff.Taker{Epoch: 3, Took: []spot.Place{c, a}}
	for _, p := range k.Took {
		_, _, answer, e := k.Take(token(3, p))
		is(t, "Take once more", e, api.ErrTwice)
		is(t, "the Taken once more", answer, taken(3, p))
	}
	k, _, _, e = k.Take(token(3, b))
	is(t, "Take", e, api.OK)
	taker(t, "with the place", k, 3, a, b, c)
}

// roomy: the same places, with spare room behind them, of which the whole is answered too.
func roomy(l ...spot.Place) ([]spot.Place, []spot.Place) {
	whole := append(slices.Clone(l), at(9, 9, 9, 9, 9), at(8, 8, 8, 8, 8), at(7, 7, 7, 7, 7), at(6, 6, 6, 6, 6))
	return whole[:len(l)], whole
}

func TestAnswersAreNew(t *testing.T) { // the rule on memory
	l := []spot.Place{places()[8], places()[2], places()[8], places()[5]}
	sorted := []spot.Place{places()[2], places()[5], places()[8]}
	spoil := func(l []spot.Place) { clear(l[:cap(l)]) }
	unchanged := func(what string, list []spot.Place, whole, wanted []spot.Place) {
		t.Helper()
		_, all := roomy(wanted...)
		same(t, what, list, wanted)
		same(t, what+", with spare room", whole, all)
	}
	list, whole := roomy(l...)
	g := handoff.Give(3, list...)
	spoil(g.Given)
	unchanged("what Give is handed", list, whole, l)

	for _, text := range []string{"", token(3, l[0]), taken(4, l[0]), taken(3, at(1, 1, 1, 1, 1)), taken(3, l[0]), taken(3, l[1])} {
		list, whole := roomy(sorted...)
		g, _ := handoff.Giver{Epoch: 3, Given: list}.Take(text)
		unchanged("a giver's", list, whole, sorted)
		spoil(g.Given)
		unchanged("a giver's, its answer spoilt", list, whole, sorted)
	}
	for _, text := range []string{"", taken(3, l[0]), token(4, l[0]), token(3, l[0]), token(3, at(1, 1, 1, 1, 1)), token(3, at(255, 1, 1, 1, 1))} {
		list, whole := roomy(sorted...)
		k, _, _, _ := handoff.Taker{Epoch: 3, Took: list}.Take(text)
		unchanged("a taker's", list, whole, sorted)
		spoil(k.Took)
		unchanged("a taker's, its answer spoilt", list, whole, sorted)
	}
	g = handoff.Give(3, l...)
	first := g.Messages()
	clear(first[:cap(first)])
	giver(t, "its messages spoilt", g, 3, sorted...)
}
