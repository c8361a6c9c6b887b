package spin_test

import (
	"math"
	"math/rand"
	"slices"
	"testing"

	"outrider/api"
	"outrider/config"
	"outrider/pair"
	"outrider/spin"
	"outrider/spot"
)

func is[T comparable](t *testing.T, what string, got, wanted T) {
	t.Helper()
	if got != wanted {
		t.Errorf("%s: %v, wanted %v", what, got, wanted)
	}
}

// made: a new spin.
func made(t *testing.T, weights ...int) spin.Spin {
	t.Helper()
	s, e := spin.New(weights...)
	if e != api.OK {
		t.Fatalf("New(%v): %v", weights, e)
	}
	return s
}

// holds: has a spin that in hand, and those weights?
func holds(t *testing.T, s spin.Spin, hand, weights []int) {
	t.Helper()
	total := 0
	var wanted []complex128
	for i, w := range weights {
		total += w
		wanted = append(wanted, complex(float64(hand[i]), float64(w)))
	}
	got := s.Pairs()
	if !slices.Equal(got, wanted) {
		t.Errorf("Pairs: %v, wanted %v", got, wanted)
	}
	for _, z := range got {
		if !pair.Is(z) {
			t.Errorf("%v is no pair", z)
		}
	}
	is(t, "Len", s.Len(), len(weights))
	is(t, "Total", s.Total(), total)
}

// turn: a turn by hand, in whole numbers; who is chosen, -1 where none is up.
func turn(hand, weights, down []int) int {
	chosen, sum := -1, 0
	for i, w := range weights {
		if slices.Contains(down, i) {
			continue
		}
		hand[i] += w
		sum += w
		if chosen < 0 || hand[i] > hand[chosen] {
			chosen = i
		}
	}
	if chosen >= 0 {
		hand[chosen] -= sum
	}
	return chosen
}

// followed holds a turn of a spin against one by hand, and answers what comes behind it.
func followed(t *testing.T, s spin.Spin, hand, weights, down []int) spin.Spin {
	t.Helper()
	wanted := turn(hand, weights, down)
	next, i, ok := s.Next(down...)
	if i != max(wanted, 0) || ok != (wanted >= 0) {
		t.Fatalf("Next(%v) of %v: %d, %v, wanted %d", down, s.Pairs(), i, ok, wanted)
	}
	holds(t, next, hand, weights)
	return next
}

// weightsOf: some by chance.
func weightsOf(r *rand.Rand, most int) []int {
	l := make([]int, r.Intn(9))
	for i := range l {
		l[i] = 1 + r.Intn(most)
	}
	return l
}

func cluster(weights ...int) config.Cluster {
	c := config.Cluster{Name: "web"}
	for i, w := range weights {
		c.Endpoints = append(c.Endpoints, config.Endpoint{Place: spot.Place{IP: [4]byte{1, 2, 3, byte(i)}, Port: 80}, Weight: w})
	}
	return c
}

func TestNew(t *testing.T) { // P22.1, of New and of Of
	for _, weights := range [][]int{
		nil, {}, {1}, {2}, {99}, {100}, {1, 100}, {5, 1, 1}, {7, 7, 7}, {1, 2, 3, 4, 5, 6, 7}, {100, 100, 100, 100, 100, 100, 100, 100},
	} {
		s, e := spin.New(weights...)
		is(t, "New", e, api.OK)
		holds(t, s, make([]int, len(weights)), weights)
		of, e := spin.Of(cluster(weights...))
		is(t, "Of", e, api.OK)
		holds(t, of, make([]int, len(weights)), weights)
		is(t, "Same", spin.Same(s, of), true)
	}
}

func TestNewErrors(t *testing.T) { // P22.1, of New and of Of
	for _, c := range []struct {
		weights []int
		wanted  api.Errno
	}{
		{[]int{0}, api.ErrRange}, {[]int{-1}, api.ErrRange}, {[]int{101}, api.ErrRange}, {[]int{math.MinInt}, api.ErrRange}, {[]int{math.MaxInt}, api.ErrRange},
		{[]int{1 << 32}, api.ErrRange}, {[]int{1<<32 + 1}, api.ErrRange}, {[]int{256 + 1}, api.ErrRange},
		{[]int{0, 1, 2}, api.ErrRange}, {[]int{1, 2, 101}, api.ErrRange}, {[]int{1, 2, 3, 4, 5, 6, 7, 0}, api.ErrRange},
		{[]int{1, 2, 3, 4, 5, 6, 7, 8, 9}, api.ErrMany}, {make([]int, 9), api.ErrMany}, {[]int{0, 1, 1, 1, 1, 1, 1, 1, 1}, api.ErrMany}, {make([]int, 1<<16), api.ErrMany},
	} {
		s, e := spin.New(c.weights...)
		is(t, "New", e, c.wanted)
		holds(t, s, nil, nil)
		is(t, "New's beside an error", spin.Same(s, spin.Spin{}), true)
		s, e = spin.Of(cluster(c.weights...))
		is(t, "Of", e, c.wanted)
		holds(t, s, nil, nil)
		is(t, "Of's beside an error", spin.Same(s, spin.Spin{}), true)
	}
}

func TestNext(t *testing.T) { // P22.1
	for _, c := range []struct {
		weights []int
		wanted  string
	}{
		{[]int{2, 1}, "aba"}, // the chapter's
		{[]int{1, 2}, "bab"},
		{[]int{5, 1, 1}, "aabacaaaabacaa"},
		{[]int{1, 1, 1}, "abcabc"},
		{[]int{1}, "aaa"},
		{[]int{100, 100}, "abab"},
		{[]int{1, 3}, "babbbabb"}, // both have 2 in hand: the first, though its weight is less
	} {
		s := made(t, c.weights...)
		hand := make([]int, len(c.weights))
		got := ""
		for range len(c.wanted) {
			_, i, ok := s.Next()
			if !ok {
				t.Fatalf("weights %v: none", c.weights)
			}
			got += string([]byte{'a' + byte(i)})
			s = followed(t, s, hand, c.weights, nil)
		}
		is(t, "turns", got, c.wanted)
	}
}

func TestNextByHand(t *testing.T) { // P22.1: what is in hand, turn by turn
	s, weights := made(t, 5, 1, 1), []int{5, 1, 1}
	for _, hand := range [][]int{{-2, 1, 1}, {-4, 2, 2}, {1, -4, 3}, {-1, -3, 4}, {4, -2, -2}, {2, -1, -1}, {0, 0, 0}} {
		s, _, _ = s.Next()
		holds(t, s, hand, weights)
	}
}

func TestNextWithSomeDown(t *testing.T) { // P22.1
	weights := []int{3, 2, 1}
	s := made(t, weights...)
	for _, c := range []struct {
		down   []int
		chosen int
		hand   []int
	}{
		{[]int{0}, 1, []int{0, -1, 1}},
		{[]int{0, 1}, 2, []int{0, 0, 0}},
		{[]int{1, 0}, 2, []int{0, 0, 0}},
		{[]int{2}, 0, []int{-2, 2, 0}},
		{[]int{1}, 0, []int{-1, 0, 1}},
		{[]int{1, 1, 1, 2, 2}, 0, []int{0, 0, 0}},
		{[]int{3}, 0, []int{-3, 2, 1}}, // there is none of that place
		{[]int{-1, math.MinInt, math.MaxInt, 8, 1 << 32}, 0, []int{-3, 2, 1}},
		{[]int{-1, 0, 3, 0, 100}, 1, []int{0, -1, 1}},
	} {
		next, i, ok := s.Next(c.down...)
		is(t, "who", i, c.chosen)
		is(t, "is one up", ok, true)
		holds(t, next, c.hand, weights)
		holds(t, s, []int{0, 0, 0}, weights)
	}
}

func TestNextWithAllDown(t *testing.T) { // P22.1
	empty := made(t)
	for _, down := range [][]int{nil, {0}, {-1, 5}} {
		next, i, ok := empty.Next(down...)
		is(t, "of none", i == 0 && !ok && spin.Same(next, empty), true)
	}
	s := made(t, 3, 2, 1)
	s, _, _ = s.Next()
	for _, down := range [][]int{{0, 1, 2}, {2, 1, 0}, {5, 2, 2, 1, -1, 0, 0}} {
		next, i, ok := s.Next(down...)
		is(t, "of all down", i == 0 && !ok && spin.Same(next, s), true)
		holds(t, next, []int{-3, 2, 1}, []int{3, 2, 1})
	}
	many := make([]int, 1<<16)
	if _, i, ok := s.Next(many...); i != 1 || !ok {
		t.Errorf("the first down, told 2^16 times: %d, %v", i, ok)
	}
}

func TestSame(t *testing.T) { // P22.1
	spins := []spin.Spin{made(t), made(t, 1), made(t, 2), made(t, 1, 1), made(t, 1, 2), made(t, 2, 1), made(t, 2, 1, 1)}
	for _, s := range spins[3:] {
		next, _, _ := s.Next()
		spins = append(spins, next)
	}
	for i, a := range spins {
		for k, b := range spins {
			is(t, "Same", spin.Same(a, b), i == k)
		}
	}
	a, b := made(t, 2, 1), made(t, 2, 1)
	for range 3 {
		a, _, _ = a.Next()
	}
	is(t, "Same behind as many turns as Total", spin.Same(a, b), true)
	a, _, _ = made(t, 1, 1).Next(0)
	is(t, "Same behind a turn of one alone", spin.Same(a, made(t, 1, 1)), true)
	is(t, "Same of the zero one", spin.Same(spin.Spin{}, made(t)), true)
}

func TestAnswersAreNew(t *testing.T) { // the rule on memory
	weights := []int{3, 2, 1, 77}
	s := made(t, weights[:3]...)
	weights[0] = 50
	holds(t, s, []int{0, 0, 0}, []int{3, 2, 1})
	c := cluster(3, 2, 1)
	of, _ := spin.Of(c)
	c.Endpoints[0].Weight = 50
	is(t, "Of keeps nothing", spin.Same(s, of), true)
	l := s.Pairs()
	l[0], l[1], l[2] = 7, 8, 9
	holds(t, s, []int{0, 0, 0}, []int{3, 2, 1})
	room := []int{2, 1, 0, 5}
	next, _, _ := s.Next(room[:2]...)
	is(t, "what is down stays so", slices.Equal(room, []int{2, 1, 0, 5}), true)
	again, _, _ := next.Next()
	again.Next(0)
	holds(t, s, []int{0, 0, 0}, []int{3, 2, 1})
	holds(t, next, []int{0, 0, 0}, []int{3, 2, 1})
	holds(t, again, []int{-3, 2, 1}, []int{3, 2, 1})
}

func TestByChance(t *testing.T) { // P22.1, P22.2: what is in hand sums to 0 ever
	r := rand.New(rand.NewSource(22))
	for n := range 400 {
		weights := weightsOf(r, []int{1, 3, 100}[n%3])
		s, hand := made(t, weights...), make([]int, len(weights))
		for range 100 {
			var down []int
			for i := range 10 {
				if r.Intn(3) == 0 {
					down = append(down, i-1)
				}
			}
			s = followed(t, s, hand, weights, down)
			is(t, "in hand in all", real(pair.Sum(s.Pairs()...)), 0)
		}
	}
}

func TestLong(t *testing.T) { // P22.1, P22.2: however one is held down, what is in hand stays a pair, and is exact
	weights := []int{100, 99, 1, 37, 100, 2, 64, 100}
	s, hand := made(t, weights...), make([]int, len(weights))
	for range 20000 {
		most := 0
		for i := range hand { // who has most is held down, so that there is more and more in hand
			if hand[i] > hand[most] {
				most = i
			}
		}
		s = followed(t, s, hand, weights, []int{most})
	}
}

// shared: in as many turns as Total each is chosen as often as its weight says, and nothing is in hand again.
func shared(t *testing.T, weights []int) {
	t.Helper()
	first := made(t, weights...)
	s, times := first, make([]int, len(weights))
	for range first.Total() {
		next, i, ok := s.Next()
		if !ok {
			t.Fatalf("weights %v: none", weights)
		}
		times[i]++
		s = next
		is(t, "in hand in all", real(pair.Sum(s.Pairs()...)), 0)
	}
	if !slices.Equal(times, weights) || !spin.Same(s, first) {
		t.Errorf("weights %v: each %v times, and then %v", weights, times, s.Pairs())
	}
}

func TestAsOftenAsTheWeight(t *testing.T) { // P22.2
	for a := range 8 {
		for b := range 8 {
			shared(t, []int{a + 1, b + 1})
			for c := range 8 {
				shared(t, []int{a + 1, b + 1, c + 1})
			}
		}
	}
	for _, weights := range [][]int{nil, {1}, {100}, {100, 1}, {1, 100}, {1, 1, 1, 1, 1, 1, 1, 1}, {100, 100, 100, 100, 100, 100, 100, 100}, {100, 1, 1, 1, 1, 1, 1, 1}} {
		shared(t, weights)
	}
	r := rand.New(rand.NewSource(23))
	for range 200 {
		shared(t, weightsOf(r, 100))
	}
}
