package pair_test

import (
	"math"
	"math/big"
	"math/rand/v2"
	"testing"

	"outrider/api"
	"outrider/pair"
)

const most = 1 << 40

// minus is -0, which can't be written as a constant.
var minus = math.Copysign(0, -1)

// parts: the ends of what a part may be, and some between.
func parts() []int64 {
	l := []int64{0, 1, 2, 3, 4, 5, 1000, 94906265, 94906266, 94906267, 1<<39 + 12345, 1 << 39, most - 2, most - 1, most}
	for _, n := range l[1:] {
		l = append(l, -n)
	}
	return l
}

// pairs: of all those parts.
func pairs() []complex128 {
	var l []complex128
	for _, a := range parts() {
		for _, b := range parts() {
			l = append(l, complex(float64(a), float64(b)))
		}
	}
	return l
}

// noParts: numbers that no part is.
func noParts() []float64 {
	return []float64{
		minus, 0.5, -0.5, 1.5, 1e-300, -1e-300, math.SmallestNonzeroFloat64, 1 - 1e-16, most - 0.5, 0.5 - most, most + 0.5, -most - 0.5,
		most + 1, -most - 1, 2 * most, 1 << 53, 1 << 62, 1 << 63, -1 << 63, 1 << 64, 1e300, math.MaxFloat64, -math.MaxFloat64,
		math.Inf(1), math.Inf(-1), math.NaN(), math.Copysign(math.NaN(), -1),
	}
}

// others: complex numbers that aren't pairs.
func others() []complex128 {
	var l []complex128
	for _, x := range noParts() {
		l = append(l, complex(x, x))
		for _, n := range []float64{0, 1, -1, 3, most, -most} {
			l = append(l, complex(x, n), complex(n, x))
		}
	}
	return l
}

// same: are both parts the same to the bit, so that -0 isn't 0?
func same(z, w complex128) bool {
	return math.Float64bits(real(z)) == math.Float64bits(real(w)) && math.Float64bits(imag(z)) == math.Float64bits(imag(w))
}

// of: the pair of two numbers that are in range, by the test's own means.
func of(a, b int64) complex128 { return complex(float64(a), float64(b)) }

// held: a number within what a part may be.
func held(n int64) int64 { return max(-most, min(most, n)) }

// ints: a pair's parts.
func ints(z complex128) (int64, int64) { return int64(real(z)), int64(imag(z)) }

func TestOf(t *testing.T) { // P5.1
	for _, a := range parts() {
		for _, b := range parts() {
			if z, e := pair.Of(a, b); !same(z, of(a, b)) || e != api.OK {
				t.Errorf("Of(%d, %d): %v, %v", a, b, z, e)
			}
		}
	}
	for _, a := range []int64{most + 1, -most - 1, most + 2, 2 * most, 1 << 53, 1<<53 + 1, math.MaxInt64, -math.MaxInt64, math.MinInt64, math.MinInt64 + 1} {
		for _, b := range []int64{0, 1, -1, most, -most, a} {
			for _, c := range [][2]int64{{a, b}, {b, a}} {
				if z, e := pair.Of(c[0], c[1]); !same(z, 0) || e != api.ErrRange {
					t.Errorf("Of(%d, %d): %v, %v, wanted 0, %v", c[0], c[1], z, e, api.ErrRange)
				}
			}
		}
	}
}

func TestMost(t *testing.T) { // the word 'Most'
	if pair.Most != most {
		t.Errorf("Most: %d", int64(pair.Most))
	}
}

func TestIs(t *testing.T) { // P5.1
	for _, z := range pairs() {
		if !pair.Is(z) {
			t.Errorf("Is(%v): false", z)
		}
	}
	for _, z := range others() {
		if pair.Is(z) {
			t.Errorf("Is(%v): true", z)
		}
	}
}

func TestParts(t *testing.T) { // P5.1
	for _, z := range pairs() {
		wantedA, wantedB := ints(z)
		if a, b, e := pair.Parts(z); a != wantedA || b != wantedB || e != api.OK {
			t.Errorf("Parts(%v): %d, %d, %v", z, a, b, e)
		}
	}
	for _, z := range others() {
		if a, b, e := pair.Parts(z); a != 0 || b != 0 || e != api.ErrForm {
			t.Errorf("Parts(%v): %d, %d, %v, wanted 0, 0, %v", z, a, b, e, api.ErrForm)
		}
	}
}

func TestAdd(t *testing.T) { // P5.2
	for _, z := range pairs() {
		a, b := ints(z)
		for _, w := range pairs() {
			c, d := ints(w)
			if got, wanted := pair.Add(z, w), of(held(a+c), held(b+d)); !same(got, wanted) {
				t.Errorf("Add(%v, %v): %v, wanted %v", z, w, got, wanted)
			}
		}
	}
	if got := pair.Add(of(most, -most), of(1, -1)); got != of(most, -most) {
		t.Errorf("Add isn't held: %v", got)
	}
}

func TestSum(t *testing.T) { // P5.2
	for _, c := range []struct {
		l      []complex128
		wanted complex128
	}{
		{nil, 0},
		{[]complex128{}, 0},
		{[]complex128{3 + 4i}, 3 + 4i},
		{[]complex128{3 + 4i, -1 - 1i, 5}, 7 + 3i},
		{[]complex128{3 + 4i, -3 - 4i}, 0},
		{[]complex128{most, 5, -5}, most - 5},
		{[]complex128{5, -5, most}, most},
		{[]complex128{most, most, -most, -most}, -most},
		{[]complex128{most, -most, most, -most}, 0},
		{[]complex128{of(0, -most), -1i, 2i}, of(0, 2-most)},
		{[]complex128{of(most, -most), of(most, -most), 1 + 1i}, of(most, 1-most)},
	} {
		if got := pair.Sum(c.l...); !same(got, c.wanted) {
			t.Errorf("Sum(%v): %v, wanted %v", c.l, got, c.wanted)
		}
	}
}

func TestSumIsAddOfAll(t *testing.T) { // P5.2
	r := rand.New(rand.NewPCG(5, 2))
	all := append(pairs(), others()...)
	for range 5000 {
		var wanted complex128
		l := make([]complex128, r.IntN(6))
		for i := range l {
			l[i] = all[r.IntN(len(all))]
			wanted = pair.Add(wanted, l[i])
		}
		if got := pair.Sum(l...); !same(got, wanted) {
			t.Errorf("Sum(%v): %v, wanted %v", l, got, wanted)
		}
	}
}

func TestSumLeavesItsList(t *testing.T) { // the rule on memory: what is handed in isn't changed, spare room included
	room := []complex128{1, 2, 3, 4}
	pair.Sum(room[:2]...)
	for i, z := range room {
		if z != complex(float64(i+1), 0) {
			t.Errorf("the list is %v", room)
		}
	}
}

// turned: a pair's parts, turned by quarters, by a table.
func turned(a, b int64, quarters int) complex128 {
	switch uint(quarters) % 4 {
	case 1:
		return of(-b, a)
	case 2:
		return of(-a, -b)
	case 3:
		return of(b, -a)
	}
	return of(a, b)
}

func TestTurn(t *testing.T) { // P5.2
	ends := []int{math.MaxInt, math.MaxInt - 1, math.MaxInt - 2, math.MaxInt - 3, math.MinInt, math.MinInt + 1, math.MinInt + 2, math.MinInt + 3}
	for q := -9; q <= 9; q++ {
		ends = append(ends, q, 1000+q, -1000+q)
	}
	for _, z := range pairs() {
		a, b := ints(z)
		for _, q := range ends {
			if got, wanted := pair.Turn(z, q), turned(a, b, q); !same(got, wanted) {
				t.Errorf("Turn(%v, %d): %v, wanted %v", z, q, got, wanted)
			}
		}
	}
	for q, wanted := range map[int]complex128{0: 3 + 4i, 1: -4 + 3i, 2: -3 - 4i, 3: 4 - 3i, 4: 3 + 4i, -1: 4 - 3i, -2: -3 - 4i, -3: -4 + 3i} {
		if got := pair.Turn(3+4i, q); got != wanted {
			t.Errorf("Turn(3+4i, %d): %v, wanted %v", q, got, wanted)
		}
	}
}

func TestMirror(t *testing.T) { // P5.2
	for _, z := range pairs() {
		a, b := ints(z)
		if got := pair.Mirror(z); !same(got, of(a, -b)) {
			t.Errorf("Mirror(%v): %v", z, got)
		}
	}
	if got := pair.Mirror(3 + 4i); got != 3-4i {
		t.Errorf("Mirror(3+4i): %v", got)
	}
}

func TestNorm(t *testing.T) { // P5.2
	square := func(x float64) float64 {
		f, _ := new(big.Float).SetPrec(200).Mul(big.NewFloat(x), big.NewFloat(x)).Float64()
		return f
	}
	for _, z := range pairs() {
		sum := new(big.Float).SetPrec(200).Add(big.NewFloat(square(real(z))), big.NewFloat(square(imag(z))))
		wanted, _ := sum.Float64()
		if got := pair.Norm(z); got != wanted || math.Signbit(got) {
			t.Errorf("Norm(%v): %v, wanted %v", z, got, wanted)
		}
	}
	for z, wanted := range map[complex128]float64{0: 0, 3 + 4i: 25, -3 - 4i: 25, 5: 25, -2i: 4, of(most, most): 1 << 81, of(-most, 0): 1 << 80} {
		if got := pair.Norm(z); got != wanted {
			t.Errorf("Norm(%v): %v, wanted %v", z, got, wanted)
		}
	}
}

func TestNormRoundsEachSquare(t *testing.T) { // P5.2: rounded once, both squares' sum would be another one
	r := rand.New(rand.NewPCG(5, 3))
	unlike := 0
	for range 2000 {
		a, b := r.Int64N(2*most+1)-most, r.Int64N(2*most+1)-most
		x, y := float64(a), float64(b)
		xx, yy := x*x, y*y
		if got, wanted := pair.Norm(of(a, b)), xx+yy; got != wanted {
			t.Errorf("Norm of %d, %d: %v, wanted %v", a, b, got, wanted)
		}
		if math.FMA(x, x, yy) != xx+yy {
			unlike++
		}
	}
	if unlike == 0 {
		t.Error("no case tells whether each square is rounded")
	}
}

func TestCmp(t *testing.T) { // P5.2
	for _, z := range pairs() {
		a, b := ints(z)
		for _, w := range pairs() {
			c, d := ints(w)
			wanted := 0
			switch {
			case a < c || a == c && b < d:
				wanted = -1
			case a > c || a == c && b > d:
				wanted = 1
			}
			if got := pair.Cmp(z, w); got != wanted {
				t.Errorf("Cmp(%v, %v): %d, wanted %d", z, w, got, wanted)
			}
		}
	}
}

func TestOthers(t *testing.T) { // P5.2: of what isn't a pair it is 0, whichever of both it is
	for _, z := range others() {
		for _, w := range append([]complex128{0, 1, 3 + 4i, -1i, of(most, -most)}, z) {
			if pair.Cmp(z, w) != 0 || pair.Cmp(w, z) != 0 {
				t.Errorf("Cmp of %v and %v: %d, and turned about %d", z, w, pair.Cmp(z, w), pair.Cmp(w, z))
			}
			for _, got := range []complex128{pair.Add(z, w), pair.Add(w, z), pair.Sum(w, z)} {
				if !same(got, 0) {
					t.Errorf("Add, or Sum, of %v and %v: %v", z, w, got)
				}
			}
		}
		for q := -5; q <= 5; q++ {
			if got := pair.Turn(z, q); !same(got, 0) {
				t.Errorf("Turn(%v, %d): %v", z, q, got)
			}
		}
		if !same(pair.Mirror(z), 0) || !same(pair.Sum(z), 0) || math.Float64bits(pair.Norm(z)) != 0 {
			t.Errorf("of %v: Mirror %v, Sum %v, Norm %v", z, pair.Mirror(z), pair.Sum(z), pair.Norm(z))
		}
	}
}

func TestTurnsFollow(t *testing.T) { // P5.3
	for _, z := range pairs() {
		w := z
		for range 4 {
			w = pair.Turn(w, 1)
			if !pair.Is(w) || pair.Norm(w) != pair.Norm(z) {
				t.Errorf("%v, turned: %v, of the norm %v", z, w, pair.Norm(w))
			}
		}
		if !same(w, z) || !same(pair.Turn(z, 4), z) || !same(pair.Turn(z, -4), z) {
			t.Errorf("four quarters of %v: %v", z, w)
		}
		if !pair.Is(pair.Mirror(z)) || !same(pair.Mirror(pair.Mirror(z)), z) {
			t.Errorf("%v, mirrored twice: %v", z, pair.Mirror(pair.Mirror(z)))
		}
	}
}

func TestAnyBits(t *testing.T) { // P1, P5.1: what is told is a pair, whatever is handed in
	r := rand.New(rand.NewPCG(5, 1))
	number := func() float64 {
		if r.IntN(2) == 0 {
			return float64(r.Int64N(1<<42) - 1<<41)
		}
		return math.Float64frombits(r.Uint64())
	}
	for range 20000 {
		z, w, q := complex(number(), number()), complex(number(), number()), int(r.Uint64())
		for _, got := range []complex128{pair.Add(z, w), pair.Sum(z, w, z), pair.Turn(z, q), pair.Mirror(z)} {
			if !pair.Is(got) {
				t.Errorf("of %v and %v, %d: %v, which isn't a pair", z, w, q, got)
			}
		}
		a, b, e := pair.Parts(z)
		if back, f := pair.Of(a, b); e == api.OK && (f != api.OK || !same(back, z)) {
			t.Errorf("Of the parts of %v: %v, %v", z, back, f)
		}
		if pair.Cmp(z, w) != -pair.Cmp(w, z) {
			t.Errorf("Cmp of %v and %v: %d, and turned about %d", z, w, pair.Cmp(z, w), pair.Cmp(w, z))
		}
	}
}
