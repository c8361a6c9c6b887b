package backoff_test

import (
	"math"
	"math/big"
	"math/rand"
	"testing"

	"outrider/backoff"
)

const most = math.MaxUint64

func is[T comparable](t *testing.T, what string, got, wanted T) {
	t.Helper()
	if got != wanted {
		t.Errorf("%s: %v, wanted %v", what, got, wanted)
	}
}

// great: a number as one that doesn't go round.
func great(n uint64) *big.Int { return new(big.Int).SetUint64(n) }

// delay: by hand, as the chapter has it.
func delay(w backoff.Wait) uint64 {
	tries := uint(0)
	if w.Tries > 0 {
		tries = uint(min(w.Tries, 5000)) // 2 to that power is beyond each Cap by far
	}
	n := great(w.Base)
	n.Lsh(n, tries)
	if n.Cmp(great(w.Cap)) > 0 {
		return w.Cap
	}
	return n.Uint64()
}

// total: by hand, from the delays of tries one by one.
func total(w backoff.Wait, n int) uint64 {
	all := new(big.Int)
	for i := range max(0, min(n, 1000)) {
		w := backoff.Wait{Base: w.Base, Cap: w.Cap, Tries: max(w.Tries, 0)}
		w.Tries = min(w.Tries, 5000) + i
		all.Add(all, great(delay(w)))
	}
	if all.Cmp(great(most)) > 0 {
		return most
	}
	return all.Uint64()
}

// sizes: numbers, edges among them.
func sizes() []uint64 {
	return []uint64{0, 1, 2, 3, 20, 255, 1<<32 - 1, 1 << 32, 1<<53 + 1, 1<<62 - 1, 1<<63 - 1, 1 << 63, 1<<63 + 1, most - 1, most}
}

func tries() []int {
	l := []int{math.MinInt, -65, -64, -2, -1, 127, 128, 1000, 1 << 32, 1<<32 + 1, math.MaxInt - 1, math.MaxInt}
	for n := range 68 {
		l = append(l, n)
	}
	return l
}

// waits: of all sizes and tries.
func waits() []backoff.Wait {
	var l []backoff.Wait
	for _, base := range sizes() {
		for _, c := range sizes() {
			for _, n := range tries() {
				l = append(l, backoff.Wait{Base: base, Cap: c, Tries: n})
			}
		}
	}
	return l
}

func TestDelay(t *testing.T) { // P18.1
	w := backoff.Wait{Base: 3, Cap: 20}
	for _, wanted := range []uint64{3, 6, 12, 20, 20, 20} {
		is(t, "the chapter's", w.Delay(), wanted)
		w = w.Next()
	}
	is(t, "of the zero one", backoff.Wait{}.Delay(), 0)
	is(t, "tries below 0", backoff.Wait{Base: 3, Cap: 20, Tries: -1}.Delay(), 3)
	is(t, "a Cap below the Base", backoff.Wait{Base: 3, Cap: 2}.Delay(), 2)
	is(t, "just the Cap", backoff.Wait{Base: 5, Cap: 20, Tries: 2}.Delay(), 20)
	is(t, "the highest bit", backoff.Wait{Base: 1, Cap: most, Tries: 63}.Delay(), 1<<63)
	is(t, "beyond it", backoff.Wait{Base: 1, Cap: most, Tries: 64}.Delay(), most)
	is(t, "it doesn't go round", backoff.Wait{Base: 3, Cap: 1 << 40, Tries: 63}.Delay(), 1<<40)
	is(t, "of no Base", backoff.Wait{Cap: 7, Tries: 65}.Delay(), 0)
	for _, w := range waits() {
		if got := w.Delay(); got != delay(w) {
			t.Errorf("%v: %d, wanted %d", w, got, delay(w))
		}
	}
}

func TestNext(t *testing.T) { // P18.1
	for _, x := range []struct{ from, to int }{
		{0, 1}, {1, 2}, {62, 63}, {63, 64}, {64, 64}, {65, 64}, {1000, 64}, {math.MaxInt, 64},
		{-1, 1}, {-2, 1}, {-64, 1}, {math.MinInt, 1},
	} {
		w := backoff.Wait{Base: 5, Cap: 6, Tries: x.from}
		is(t, "Next", w.Next(), backoff.Wait{Base: 5, Cap: 6, Tries: x.to})
		is(t, "what was", w, backoff.Wait{Base: 5, Cap: 6, Tries: x.from})
	}
}

func TestReset(t *testing.T) { // P18.1
	for _, n := range tries() {
		w := backoff.Wait{Base: 5, Cap: 6, Tries: n}
		is(t, "Reset", w.Reset(), backoff.Wait{Base: 5, Cap: 6})
		is(t, "what was", w.Tries, n)
	}
}

func TestJitter(t *testing.T) { // P18.1
	even, odd := backoff.Wait{Base: 6, Cap: 20}, backoff.Wait{Base: 7, Cap: 20}
	for draw, wanted := range []uint64{3, 4, 5, 6, 3, 4, 5, 6, 3} {
		is(t, "of 6", even.Jitter(uint64(draw)), wanted)
	}
	for draw, wanted := range []uint64{3, 4, 5, 6, 7, 3, 4, 5, 6, 7, 3} {
		is(t, "of 7", odd.Jitter(uint64(draw)), wanted)
	}
	is(t, "of 1", backoff.Wait{Base: 1, Cap: 1}.Jitter(0), 0)
	is(t, "of 1", backoff.Wait{Base: 1, Cap: 1}.Jitter(1), 1)
	is(t, "of 0", backoff.Wait{}.Jitter(most), 0)
	whole := backoff.Wait{Base: most, Cap: most}
	is(t, "of the greatest", whole.Jitter(0), 1<<63-1)
	is(t, "of the greatest", whole.Jitter(1<<63), most)
	is(t, "of the greatest, one round", whole.Jitter(1<<63+1), 1<<63-1)
	is(t, "of a try more", backoff.Wait{Base: 6, Cap: 20, Tries: 1}.Jitter(6), 12)
	for _, w := range waits() {
		half := new(big.Int).Rsh(great(delay(w)), 1)
		left := new(big.Int).Sub(great(delay(w)), half)
		for _, draw := range sizes() {
			n := new(big.Int).Mod(great(draw), new(big.Int).Add(left, great(1)))
			if got := w.Jitter(draw); got != n.Add(n, half).Uint64() {
				t.Errorf("%v, draw %d: %d, wanted %d", w, draw, got, n)
			}
		}
	}
}

func TestTotal(t *testing.T) { // P18.1
	w := backoff.Wait{Base: 3, Cap: 20}
	for n, wanted := range []uint64{0, 3, 9, 21, 41, 61} {
		is(t, "the chapter's", w.Total(n), wanted)
		is(t, "with tries below 0", backoff.Wait{Base: 3, Cap: 20, Tries: -7}.Total(n), wanted)
	}
	is(t, "from the second on", w.Next().Total(2), 18)
	is(t, "none", w.Total(-1), 0)
	is(t, "none", w.Total(math.MinInt), 0)
	one := backoff.Wait{Base: 1, Cap: 1}
	for _, x := range []struct{ n, wanted int }{{999, 999}, {1000, 1000}, {1001, 1000}, {1 << 40, 1000}, {math.MaxInt, 1000}} {
		is(t, "at most 1000", one.Total(x.n), uint64(x.wanted))
	}
	is(t, "as many as may be", backoff.Wait{Base: 1, Cap: most}.Total(64), most)
	is(t, "beyond it", backoff.Wait{Base: 1, Cap: most}.Total(65), most)
	is(t, "twice the highest bit", backoff.Wait{Base: 1 << 63, Cap: 1 << 63}.Total(2), most)
	is(t, "it doesn't go round", backoff.Wait{Base: 1 << 63, Cap: 1 << 63}.Total(3), most)
	for i, w := range waits() {
		n := []int{-1, 0, 1, 2, 3, 5, 64, 70}[i%8]
		if got := w.Total(n); got != total(w, n) {
			t.Errorf("%v, of %d: %d, wanted %d", w, n, got, total(w, n))
		}
	}
	is(t, "what was", w, backoff.Wait{Base: 3, Cap: 20})
}

func TestByChance(t *testing.T) { // P18.1
	r := rand.New(rand.NewSource(18))
	for range 3000 {
		w := backoff.Wait{Base: r.Uint64() >> r.Intn(64), Cap: r.Uint64() >> r.Intn(64), Tries: r.Intn(80) - 8}
		n := r.Intn(100) - 5
		if w.Delay() != delay(w) || w.Total(n) != total(w, n) {
			t.Errorf("%v, of %d: %d and %d, wanted %d and %d", w, n, w.Delay(), w.Total(n), delay(w), total(w, n))
		}
	}
}

func TestDelaysRise(t *testing.T) { // P18.2
	for _, w := range waits() {
		last := w.Delay()
		for range 70 {
			w = w.Next()
			if d := w.Delay(); d < last || d > w.Cap || last > w.Cap {
				t.Fatalf("%v: %d behind %d", w, d, last)
			}
			last = w.Delay()
		}
		if w.Base > 0 && last != w.Cap {
			t.Errorf("%v: %d behind 70 tries", w, last)
		}
	}
}

func TestJitterIsWithin(t *testing.T) { // P18.1, P18.2: from half the delay to all of it
	r := rand.New(rand.NewSource(19))
	for _, w := range waits() {
		d := w.Delay()
		if n := w.Jitter(r.Uint64()); n < d/2 || n > d {
			t.Errorf("%v: %d of %d", w, n, d)
		}
	}
}
