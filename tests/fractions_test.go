package tests

import (
	"math"
	"math/big"
	"strconv"
	"strings"
	"testing"

	"loop.example/icecores/impl"
)

const (
	partMax     = 1000000000
	quotientEnd = 4000000000000000000
)

// operation is one of the four that take two fractions to a fraction.
type operation func(a impl.Frac, b impl.Frac) (impl.Frac, bool)

func frac(num int, den int) impl.Frac {
	return impl.Frac{Num: num, Den: den}
}

func opposite(a impl.Frac) impl.Frac {
	return frac(-a.Num, a.Den)
}

func named(a impl.Frac) string {
	return "{" + strconv.Itoa(a.Num) + ", " + strconv.Itoa(a.Den) + "}"
}

func namedPair(name string, a impl.Frac, b impl.Frac) string {
	return name + "(" + named(a) + ", " + named(b) + ")"
}

// inLowestTerms looks for the common divisor by trial for small parts and with math/big for others.
func inLowestTerms(num int, den int) bool {
	if den > 1000 {
		return new(big.Int).GCD(nil, nil, new(big.Int).Abs(big.NewInt(int64(num))), big.NewInt(int64(den))).Cmp(big.NewInt(1)) == 0
	}
	for d := 2; d <= den; d++ {
		if num%d == 0 && den%d == 0 {
			return false
		}
	}
	return true
}

// sampleFracs returns valid fractions: all small ones, and those of parts at and near the ends.
func sampleFracs() []impl.Frac {
	var list []impl.Frac
	for den := 1; den <= 6; den++ {
		for num := -6; num <= 6; num++ {
			if inLowestTerms(num, den) {
				list = append(list, frac(num, den))
			}
		}
	}
	nums := []int{1, 2, 31622, 44721, partMax / 4, partMax/2 - 1, partMax / 2, partMax - 2, partMax - 1, partMax}
	dens := []int{1, 2, 3, 4, 31623, 44722, partMax / 4, partMax / 2, partMax/2 + 1, partMax - 1, partMax}
	for _, num := range nums {
		for _, den := range dens {
			if (num > 6 || den > 6) && inLowestTerms(num, den) {
				list = append(list, frac(num, den), frac(-num, den))
			}
		}
	}
	return list
}

// invalidFracs breaks each condition of a valid fraction alone and with others.
func invalidFracs() []impl.Frac {
	return []impl.Frac{
		{}, frac(1, 0), frac(-1, 0), frac(partMax, 0), frac(math.MaxInt, 0), frac(math.MinInt, 0),
		frac(1, -1), frac(0, -1), frac(-1, -2), frac(3, -2), frac(1, -partMax), frac(1, math.MinInt), frac(0, math.MinInt), frac(1, math.MinInt+1),
		frac(2, 4), frac(0, 2), frac(0, partMax), frac(2, 2), frac(-2, 4), frac(-3, 3), frac(6, 9), frac(35, 49), frac(-partMax, 2), frac(partMax, 5),
		frac(partMax, partMax), frac(-partMax, partMax), frac(partMax/2, partMax), frac(partMax-2, partMax),
		frac(partMax+1, 1), frac(-partMax-1, 1), frac(partMax+1, 2), frac(-partMax-1, partMax), frac(1<<32+1, 1), frac(1<<32+1, 2),
		frac(1, partMax+1), frac(-1, partMax+1), frac(0, partMax+1), frac(1, 1<<32+1), frac(1, math.MaxInt), frac(-1, math.MaxInt),
		frac(math.MaxInt, 1), frac(math.MinInt, 1), frac(math.MinInt+1, 1), frac(math.MaxInt, 2), frac(math.MinInt, 3),
		frac(math.MaxInt, math.MaxInt), frac(math.MinInt, math.MinInt), frac(math.MaxInt, math.MinInt), frac(math.MinInt, math.MaxInt),
	}
}

func ratOf(a impl.Frac) *big.Rat {
	return big.NewRat(int64(a.Num), int64(a.Den))
}

// fracOfRat returns the fraction that an exact number is, and whether its parts are within the limits.
func fracOfRat(r *big.Rat) (impl.Frac, bool) {
	limit := big.NewInt(partMax)
	if r.Num().CmpAbs(limit) > 0 || r.Denom().Cmp(limit) > 0 {
		return impl.Frac{}, false
	}
	return frac(int(r.Num().Int64()), int(r.Denom().Int64())), true
}

func wantFrac(t *testing.T, call string, got impl.Frac, ok bool, want impl.Frac, wantOk bool) {
	t.Helper()
	if got != want || ok != wantOk {
		t.Fatalf("%s returned %s, %t, not %s, %t", call, named(got), ok, named(want), wantOk)
	}
}

func wantOf(t *testing.T, a int, b int, want impl.Frac, wantOk bool) {
	t.Helper()
	got, ok := impl.FracOf(a, b)
	wantFrac(t, "FracOf("+strconv.Itoa(a)+", "+strconv.Itoa(b)+")", got, ok, want, wantOk)
}

// forPairs calls a check with every pair of samples.
func forPairs(check func(a impl.Frac, b impl.Frac)) {
	list := sampleFracs()
	for _, a := range list {
		for _, b := range list {
			check(a, b)
		}
	}
}

// wantOften fails if a promise held only because its condition hardly ever did.
func wantOften(t *testing.T, times int, least int) {
	t.Helper()
	if times < least {
		t.Fatalf("the condition of the promise held only %d times", times)
	}
}

func TestFracMax(t *testing.T) {
	if impl.FracMax != partMax {
		t.Errorf("FracMax is %d", impl.FracMax)
	}
}

func TestFracValid(t *testing.T) {
	for num := -60; num <= 60; num++ {
		for den := -3; den <= 60; den++ {
			if got, want := impl.FracValid(frac(num, den)), den >= 1 && inLowestTerms(num, den); got != want {
				t.Fatalf("FracValid(%s) returned %t", named(frac(num, den)), got)
			}
		}
	}
	for _, a := range sampleFracs() {
		if !impl.FracValid(a) {
			t.Errorf("FracValid(%s) returned false", named(a))
		}
	}
	for _, a := range invalidFracs() {
		if impl.FracValid(a) {
			t.Errorf("FracValid(%s) returned true", named(a))
		}
	}
}

func TestFracValidNearTheLimits(t *testing.T) {
	for num := partMax - 30; num <= partMax+5; num++ {
		for den := partMax - 30; den <= partMax+5; den++ {
			want := num <= partMax && den <= partMax && inLowestTerms(num, den)
			for _, a := range []impl.Frac{frac(num, den), frac(-num, den)} {
				if impl.FracValid(a) != want {
					t.Fatalf("FracValid(%s) returned %t", named(a), !want)
				}
			}
			if impl.FracValid(frac(num, -den)) || impl.FracValid(frac(-num, -den)) {
				t.Fatalf("FracValid takes the denominator %d", -den)
			}
		}
	}
}

func TestFracOfExamples(t *testing.T) {
	for _, c := range []struct {
		a, b int
		want impl.Frac
	}{
		{6, -4, frac(-3, 2)}, {-6, 4, frac(-3, 2)}, {-6, -4, frac(3, 2)}, {6, 4, frac(3, 2)},
		{1, -1, frac(-1, 1)}, {-1, -1, frac(1, 1)}, {8, -2, frac(-4, 1)}, {-8, -2, frac(4, 1)}, {2, -8, frac(-1, 4)}, {-2, -8, frac(1, 4)},
		{0, 1, frac(0, 1)}, {0, -1, frac(0, 1)}, {0, 7, frac(0, 1)}, {0, -7, frac(0, 1)}, {0, partMax + 1, frac(0, 1)},
		{7, 7, frac(1, 1)}, {2, 3, frac(2, 3)}, {49, 35, frac(7, 5)}, {1024, 96, frac(32, 3)},
		{partMax, 1, frac(partMax, 1)}, {partMax, -1, frac(-partMax, 1)}, {-partMax, 1, frac(-partMax, 1)}, {-partMax, -1, frac(partMax, 1)},
		{1, partMax, frac(1, partMax)}, {1, -partMax, frac(-1, partMax)}, {-1, -partMax, frac(1, partMax)},
		{partMax, partMax, frac(1, 1)}, {-partMax, partMax, frac(-1, 1)}, {partMax, partMax - 1, frac(partMax, partMax-1)},
		{2 * partMax, 2, frac(partMax, 1)}, {2, -2 * partMax, frac(-1, partMax)}, {partMax + 1, partMax + 1, frac(1, 1)},
	} {
		wantOf(t, c.a, c.b, c.want, true)
	}
}

func TestFracOfSmallNumbers(t *testing.T) {
	for a := -80; a <= 80; a++ {
		wantOf(t, a, 0, impl.Frac{}, false)
		for b := 1; b <= 80; b++ {
			num, den := a, b
			for d := b; d > 1; d-- {
				if a%d == 0 && b%d == 0 {
					num, den = a/d, b/d
					break
				}
			}
			wantOf(t, a, b, frac(num, den), true)
			wantOf(t, a, -b, frac(-num, den), true)
		}
	}
}

func TestFracOfAtBothEnds(t *testing.T) {
	for _, c := range []struct {
		a, b int
		want impl.Frac
	}{
		{quotientEnd, quotientEnd, frac(1, 1)}, {quotientEnd - 1, quotientEnd - 1, frac(1, 1)}, {quotientEnd, quotientEnd / 2, frac(2, 1)},
		{quotientEnd / 4 * 3, quotientEnd, frac(3, 4)}, {quotientEnd, 4 * partMax, frac(partMax, 1)}, {4 * partMax, quotientEnd, frac(1, partMax)},
		{0, quotientEnd, frac(0, 1)}, {quotientEnd, quotientEnd - 4*partMax, frac(partMax, partMax-1)},
	} {
		wantOf(t, c.a, c.b, c.want, true)
		wantOf(t, -c.a, -c.b, c.want, true)
		wantOf(t, -c.a, c.b, opposite(c.want), true)
		wantOf(t, c.a, -c.b, opposite(c.want), true)
	}
	beyond := []int{quotientEnd + 1, quotientEnd + 2, math.MaxInt - 1, math.MaxInt, -quotientEnd - 1, -quotientEnd - 2, math.MinInt + 1, math.MinInt}
	for _, a := range beyond {
		for _, b := range append([]int{-2, -1, 0, 1, 2, 4 * partMax, quotientEnd, -quotientEnd}, beyond...) {
			wantOf(t, a, b, impl.Frac{}, false)
			wantOf(t, b, a, impl.Frac{}, false)
		}
		// Each of these divides one of the numbers beyond, so that only the range of the arguments rules the fraction out.
		for _, b := range []int{331772977373, quotientEnd/2 + 1, 1 << 61, math.MaxInt / 3, math.MaxInt / 7} {
			wantOf(t, a, b, impl.Frac{}, false)
			wantOf(t, b, a, impl.Frac{}, false)
		}
		wantOf(t, a, a, impl.Frac{}, false)
		wantOf(t, 0, a, impl.Frac{}, false)
	}
	for _, a := range []int{-quotientEnd, -partMax, -1, 0, 1, partMax, quotientEnd} {
		wantOf(t, a, 0, impl.Frac{}, false)
	}
}

// TestFracOfNearTheLimit compares FracOf with exact numbers where the reduced parts are near FracMax and both near the ends.
func TestFracOfNearTheLimit(t *testing.T) {
	parts := []int{1, 2, 3, partMax / 2, partMax - 2, partMax - 1, partMax, partMax + 1, partMax + 2, 2 * partMax}
	within, beyond := 0, 0
	for _, factor := range []int{1, 2, 30, 999, 1999999996, 3999999992, 3999999999, 4 * partMax} {
		for _, num := range parts {
			for _, den := range parts {
				if num > quotientEnd/factor || den > quotientEnd/factor {
					continue
				}
				want, ok := fracOfRat(big.NewRat(int64(num), int64(den)))
				minus := impl.Frac{}
				if ok {
					minus = opposite(want)
					within++
				} else {
					beyond++
				}
				wantOf(t, num*factor, den*factor, want, ok)
				wantOf(t, -num*factor, -den*factor, want, ok)
				wantOf(t, -num*factor, den*factor, minus, ok)
				wantOf(t, num*factor, -den*factor, minus, ok)
			}
		}
	}
	wantOften(t, within, 100)
	wantOften(t, beyond, 100)
}

func TestP12FracOfHasTheValue(t *testing.T) {
	numbers := []int{-partMax, -partMax + 1, -720, -7, -6, -2, -1, 0, 1, 2, 3, 4, 6, 35, 720, 31623, partMax / 2, partMax - 1, partMax}
	for _, a := range numbers {
		for _, b := range numbers {
			if b == 0 {
				continue
			}
			f, ok := impl.FracOf(a, b)
			if !ok || !impl.FracValid(f) || f.Num*b != a*f.Den {
				t.Fatalf("FracOf(%d, %d) returned %s, %t", a, b, named(f), ok)
			}
			wantOf(t, -a, -b, f, true)
		}
	}
}

func TestP13FracOfOfMultiples(t *testing.T) {
	for a := -30; a <= 30; a++ {
		for b := -30; b <= 30; b++ {
			f, ok := impl.FracOf(a, b)
			if ok != (b != 0) {
				t.Fatalf("FracOf(%d, %d) returned %t", a, b, ok)
			}
			for _, factor := range []int{2, 3, 7, partMax / 30} {
				wantOf(t, factor*a, factor*b, f, ok)
			}
		}
	}
	for _, factor := range []int{2, 3, 7} {
		wantOf(t, partMax/factor*factor, -(partMax/factor-1)*factor, frac(-(partMax/factor), partMax/factor-1), true)
	}
}

func TestP14FracOfOfAValidFraction(t *testing.T) {
	for _, a := range sampleFracs() {
		wantOf(t, a.Num, a.Den, a, true)
		if impl.FracValid(frac(2*a.Num, 2*a.Den)) {
			t.Errorf("FracValid holds for %s with both parts doubled", named(a))
		}
		if impl.FracValid(frac(a.Num, 0)) {
			t.Errorf("FracValid holds for %s", named(frac(a.Num, 0)))
		}
	}
}

func TestFracOperationsAreExact(t *testing.T) {
	within, beyond := 0, 0
	check := func(name string, op operation, a impl.Frac, b impl.Frac, exact *big.Rat) {
		want, wantOk := fracOfRat(exact)
		got, ok := op(a, b)
		wantFrac(t, namedPair(name, a, b), got, ok, want, wantOk)
		if ok {
			within++
		} else {
			beyond++
		}
	}
	forPairs(func(a impl.Frac, b impl.Frac) {
		x, y := ratOf(a), ratOf(b)
		check("FracAdd", impl.FracAdd, a, b, new(big.Rat).Add(x, y))
		check("FracSub", impl.FracSub, a, b, new(big.Rat).Sub(x, y))
		check("FracMul", impl.FracMul, a, b, new(big.Rat).Mul(x, y))
		if b.Num != 0 {
			check("FracDiv", impl.FracDiv, a, b, new(big.Rat).Quo(x, y))
		}
		if got, want := impl.FracLess(a, b), x.Cmp(y) < 0; got != want {
			t.Fatalf("%s returned %t", namedPair("FracLess", a, b), got)
		}
	})
	wantOften(t, within, 10000)
	wantOften(t, beyond, 10000)
}

func TestFracOperationExamples(t *testing.T) {
	third, minusHalf, great, least := frac(1, 3), frac(-1, 2), frac(partMax, 1), frac(1, partMax)
	for _, c := range []struct {
		name   string
		op     operation
		a, b   impl.Frac
		want   impl.Frac
		wantOk bool
	}{
		{"FracAdd", impl.FracAdd, frac(1, 6), third, frac(1, 2), true}, {"FracAdd", impl.FracAdd, frac(-3, 2), frac(1, 6), frac(-4, 3), true},
		{"FracAdd", impl.FracAdd, minusHalf, frac(1, 2), frac(0, 1), true}, {"FracAdd", impl.FracAdd, great, frac(-1, 1), frac(partMax-1, 1), true},
		{"FracAdd", impl.FracAdd, great, frac(1, 1), frac(0, 0), false}, {"FracAdd", impl.FracAdd, opposite(great), frac(-1, 1), frac(0, 0), false},
		{"FracAdd", impl.FracAdd, least, frac(-1, partMax-1), frac(0, 0), false}, {"FracAdd", impl.FracAdd, great, great, frac(0, 0), false},
		{"FracSub", impl.FracSub, frac(1, 2), third, frac(1, 6), true}, {"FracSub", impl.FracSub, third, minusHalf, frac(5, 6), true},
		{"FracSub", impl.FracSub, great, great, frac(0, 1), true}, {"FracSub", impl.FracSub, opposite(great), frac(1, 1), frac(0, 0), false},
		{"FracSub", impl.FracSub, frac(0, 1), great, opposite(great), true}, {"FracSub", impl.FracSub, great, opposite(great), frac(0, 0), false},
		{"FracMul", impl.FracMul, third, minusHalf, frac(-1, 6), true}, {"FracMul", impl.FracMul, great, least, frac(1, 1), true},
		{"FracMul", impl.FracMul, opposite(great), opposite(least), frac(1, 1), true}, {"FracMul", impl.FracMul, great, frac(2, 1), frac(0, 0), false},
		{"FracMul", impl.FracMul, least, frac(1, 2), frac(0, 0), false}, {"FracMul", impl.FracMul, least, frac(0, 1), frac(0, 1), true},
		{"FracDiv", impl.FracDiv, third, minusHalf, frac(-2, 3), true}, {"FracDiv", impl.FracDiv, minusHalf, frac(-3, 4), frac(2, 3), true},
		{"FracDiv", impl.FracDiv, frac(1, 1), opposite(great), opposite(least), true}, {"FracDiv", impl.FracDiv, frac(1, 1), opposite(least), opposite(great), true},
		{"FracDiv", impl.FracDiv, great, opposite(great), frac(-1, 1), true}, {"FracDiv", impl.FracDiv, great, frac(1, 2), frac(0, 0), false},
		{"FracDiv", impl.FracDiv, frac(0, 1), opposite(great), frac(0, 1), true}, {"FracDiv", impl.FracDiv, least, opposite(great), frac(0, 0), false},
		{"FracDiv", impl.FracDiv, third, frac(0, 1), frac(0, 0), false}, {"FracDiv", impl.FracDiv, frac(0, 1), frac(0, 1), frac(0, 0), false},
	} {
		got, ok := c.op(c.a, c.b)
		wantFrac(t, namedPair(c.name, c.a, c.b), got, ok, c.want, c.wantOk)
	}
}

func TestFracOperationsWithInvalidFractions(t *testing.T) {
	others := append([]impl.Frac{frac(0, 1), frac(1, 1), frac(-1, 2), frac(partMax, 1), frac(1, partMax)}, invalidFracs()...)
	for _, bad := range invalidFracs() {
		for _, other := range others {
			for _, c := range []struct {
				name string
				op   operation
			}{{"FracAdd", impl.FracAdd}, {"FracSub", impl.FracSub}, {"FracMul", impl.FracMul}, {"FracDiv", impl.FracDiv}} {
				got, ok := c.op(bad, other)
				wantFrac(t, namedPair(c.name, bad, other), got, ok, impl.Frac{}, false)
				got, ok = c.op(other, bad)
				wantFrac(t, namedPair(c.name, other, bad), got, ok, impl.Frac{}, false)
			}
			if impl.FracLess(bad, other) || impl.FracLess(other, bad) {
				t.Fatalf("FracLess holds for %s and %s", named(bad), named(other))
			}
		}
		if s := impl.FracText(bad); s != "" {
			t.Errorf("FracText(%s) returned %q", named(bad), s)
		}
		if n, ok := impl.FracFloor(bad); n != 0 || ok {
			t.Errorf("FracFloor(%s) returned %d, %t", named(bad), n, ok)
		}
	}
}

func TestFracDivByZero(t *testing.T) {
	for _, a := range sampleFracs() {
		got, ok := impl.FracDiv(a, frac(0, 1))
		wantFrac(t, namedPair("FracDiv", a, frac(0, 1)), got, ok, impl.Frac{}, false)
	}
}

func TestP15FracAddExchangedAndUndone(t *testing.T) {
	times := 0
	forPairs(func(a impl.Frac, b impl.Frac) {
		sum, ok := impl.FracAdd(a, b)
		if !ok {
			return
		}
		times++
		other, ok := impl.FracAdd(b, a)
		wantFrac(t, namedPair("FracAdd", b, a), other, ok, sum, true)
		back, ok := impl.FracSub(sum, b)
		wantFrac(t, namedPair("FracSub", sum, b), back, ok, a, true)
	})
	wantOften(t, times, 5000)
}

// associates counts the pairs for which an operation with a third fraction can be done in both ways, and checks that both agree.
func associates(t *testing.T, name string, op operation, third impl.Frac) {
	t.Helper()
	times := 0
	forPairs(func(a impl.Frac, b impl.Frac) {
		first, ok1 := op(a, b)
		second, ok2 := op(b, third)
		if !ok1 || !ok2 {
			return
		}
		left, ok1 := op(first, third)
		right, ok2 := op(a, second)
		if ok1 != ok2 || left != right {
			t.Fatalf("%s of %s, %s and %s leads to %s and %s", name, named(a), named(b), named(third), named(left), named(right))
		}
		if ok1 {
			times++
		}
	})
	wantOften(t, times, 2000)
}

func TestP16FracAddAssociates(t *testing.T) {
	associates(t, "FracAdd", impl.FracAdd, frac(1, 3))
}

func TestP17FracSubExchanged(t *testing.T) {
	times := 0
	forPairs(func(a impl.Frac, b impl.Frac) {
		d, ok := impl.FracSub(a, b)
		if !ok {
			return
		}
		times++
		other, ok := impl.FracSub(b, a)
		wantFrac(t, namedPair("FracSub", b, a), other, ok, opposite(d), true)
		if less := impl.FracLess(a, b); (d.Num < 0) != less || impl.FracLess(d, frac(0, 1)) != less {
			t.Fatalf("%s returned %s, FracLess %t", namedPair("FracSub", a, b), named(d), less)
		}
	})
	wantOften(t, times, 5000)
}

func TestP18FracMulExchangedAndZero(t *testing.T) {
	times := 0
	forPairs(func(a impl.Frac, b impl.Frac) {
		p, ok := impl.FracMul(a, b)
		if !ok {
			return
		}
		times++
		other, ok := impl.FracMul(b, a)
		wantFrac(t, namedPair("FracMul", b, a), other, ok, p, true)
		if isZero, hasZero := p == frac(0, 1), a == frac(0, 1) || b == frac(0, 1); isZero != hasZero {
			t.Fatalf("%s returned %s", namedPair("FracMul", a, b), named(p))
		}
	})
	wantOften(t, times, 3000)
}

func TestP19FracMulWithASum(t *testing.T) {
	half, times := frac(1, 2), 0
	forPairs(func(a impl.Frac, b impl.Frac) {
		p, ok1 := impl.FracMul(a, b)
		q, ok2 := impl.FracMul(a, half)
		sum, ok3 := impl.FracAdd(b, half)
		if !ok1 || !ok2 || !ok3 {
			return
		}
		whole, ok1 := impl.FracMul(a, sum)
		parts, ok2 := impl.FracAdd(p, q)
		if ok1 != ok2 || whole != parts {
			t.Fatalf("%s times the sum of %s and 1/2 is %s, of the products %s", named(a), named(b), named(whole), named(parts))
		}
		if ok1 {
			times++
		}
	})
	wantOften(t, times, 2000)
}

func TestP20FracDivUndoneAndTurned(t *testing.T) {
	times := 0
	forPairs(func(a impl.Frac, b impl.Frac) {
		q, ok := impl.FracDiv(a, b)
		if !ok {
			return
		}
		times++
		back, ok := impl.FracMul(q, b)
		wantFrac(t, namedPair("FracMul", q, b), back, ok, a, true)
		turned, ok := impl.FracDiv(b, a)
		if ok != (a.Num != 0) {
			t.Fatalf("%s returned %t", namedPair("FracDiv", b, a), ok)
		}
		if ok && (turned.Num*q.Num != turned.Den*q.Den || turned.Den <= 0) {
			t.Fatalf("%s returned %s, the other way %s", namedPair("FracDiv", a, b), named(q), named(turned))
		}
	})
	wantOften(t, times, 3000)
}

func TestP21FracLessExchanged(t *testing.T) {
	times := 0
	forPairs(func(a impl.Frac, b impl.Frac) {
		if !impl.FracLess(a, b) {
			if a != b && !impl.FracLess(b, a) {
				t.Fatalf("none of %s and %s is less", named(a), named(b))
			}
			return
		}
		times++
		if impl.FracLess(b, a) || !impl.FracLess(opposite(b), opposite(a)) {
			t.Fatalf("FracLess holds for %s and %s, and not as it must for both exchanged", named(a), named(b))
		}
	})
	wantOften(t, times, 5000)
}

func TestFracLessExamples(t *testing.T) {
	rising := []impl.Frac{
		frac(-partMax, 1), frac(-partMax+1, 1), frac(-partMax, 3), frac(-2, 1), frac(-3, 2), frac(-1, 1), frac(-partMax+1, partMax), frac(-partMax+2, partMax-1),
		frac(-1, 2), frac(-1, 3), frac(-1, partMax-1), frac(-1, partMax), frac(0, 1), frac(1, partMax), frac(1, partMax-1), frac(1, 3), frac(1, 2),
		frac(2, 3), frac(partMax-2, partMax-1), frac(partMax-1, partMax), frac(1, 1), frac(partMax, partMax-1), frac(3, 2), frac(2, 1), frac(partMax-1, 1), frac(partMax, 1),
	}
	for i, a := range rising {
		for j, b := range rising {
			if got := impl.FracLess(a, b); got != (i < j) {
				t.Errorf("%s returned %t", namedPair("FracLess", a, b), got)
			}
		}
	}
}

func TestFracTextExamples(t *testing.T) {
	for _, c := range []struct {
		a    impl.Frac
		want string
	}{
		{frac(0, 1), "0"}, {frac(1, 1), "1"}, {frac(-1, 1), "-1"}, {frac(1, 2), "1/2"}, {frac(-3, 2), "-3/2"}, {frac(10, 11), "10/11"}, {frac(25, 1), "25"},
		{frac(partMax, 1), "1000000000"}, {frac(-partMax, 1), "-1000000000"}, {frac(1, partMax), "1/1000000000"}, {frac(-partMax+1, partMax), "-999999999/1000000000"},
	} {
		if got := impl.FracText(c.a); got != c.want {
			t.Errorf("FracText(%s) returned %q, not %q", named(c.a), got, c.want)
		}
	}
}

func TestP22FracTextHasASlashForOthersThanWholeOnes(t *testing.T) {
	for _, a := range sampleFracs() {
		s, minus := impl.FracText(a), impl.FracText(opposite(a))
		if strings.Contains(s, "/") != (a.Den != 1) {
			t.Errorf("FracText(%s) returned %q", named(a), s)
		}
		want := "-" + s
		switch {
		case a.Num == 0:
			want = "0"
		case a.Num < 0:
			want = strings.TrimPrefix(s, "-")
		}
		if s == "" || minus != want || (s == minus) != (s == "0") {
			t.Errorf("FracText(%s) returned %q, that of the opposite %q", named(a), s, minus)
		}
		num, den, _ := strings.Cut(s, "/")
		if num != strconv.Itoa(a.Num) || den != "" && den != strconv.Itoa(a.Den) {
			t.Errorf("FracText(%s) returned %q", named(a), s)
		}
	}
}

func TestFracFloorExamples(t *testing.T) {
	for _, c := range []struct {
		a    impl.Frac
		want int
	}{
		{frac(0, 1), 0}, {frac(1, 1), 1}, {frac(-1, 1), -1}, {frac(1, 2), 0}, {frac(-1, 2), -1}, {frac(3, 2), 1}, {frac(-3, 2), -2},
		{frac(7, 3), 2}, {frac(-7, 3), -3}, {frac(-8, 3), -3}, {frac(8, 3), 2}, {frac(-partMax, 1), -partMax}, {frac(partMax, 1), partMax},
		{frac(1, partMax), 0}, {frac(-1, partMax), -1}, {frac(partMax-1, partMax), 0}, {frac(-partMax+1, partMax), -1},
		{frac(partMax, partMax-1), 1}, {frac(-partMax, partMax-1), -2}, {frac(-partMax+1, 2), -partMax / 2}, {frac(partMax-1, 2), partMax/2 - 1},
	} {
		n, ok := impl.FracFloor(c.a)
		wantPair(t, "FracFloor of "+named(c.a), n, ok, c.want, true)
	}
}

func TestP23FracFloorIsTheGreatest(t *testing.T) {
	for _, a := range sampleFracs() {
		n, ok := impl.FracFloor(a)
		if !ok {
			t.Fatalf("FracFloor(%s) failed", named(a))
		}
		// Both products stay far from the ends of int.
		if n*a.Den > a.Num || (n+1)*a.Den <= a.Num {
			t.Errorf("FracFloor(%s) returned %d", named(a), n)
		}
		if impl.FracLess(a, frac(n, 1)) || n < partMax && !impl.FracLess(a, frac(n+1, 1)) {
			t.Errorf("FracFloor(%s) returned %d, which FracLess contradicts", named(a), n)
		}
		if a.Den == 1 && n != a.Num {
			t.Errorf("FracFloor(%s) returned %d", named(a), n)
		}
	}
}

func TestP24FracMulAssociates(t *testing.T) {
	associates(t, "FracMul", impl.FracMul, frac(2, 3))
}

func TestP25FracAddOfZeroAndOrder(t *testing.T) {
	times := 0
	forPairs(func(a impl.Frac, b impl.Frac) {
		sum, ok := impl.FracAdd(a, b)
		if !ok {
			return
		}
		times++
		same, ok := impl.FracAdd(sum, frac(0, 1))
		wantFrac(t, namedPair("FracAdd", sum, frac(0, 1)), same, ok, sum, true)
		if impl.FracLess(sum, a) != impl.FracLess(b, frac(0, 1)) {
			t.Fatalf("%s returned %s", namedPair("FracAdd", a, b), named(sum))
		}
	})
	wantOften(t, times, 5000)
}

func TestP26FracLessMovedAndMiddle(t *testing.T) {
	moved, middles := 0, 0
	forPairs(func(a impl.Frac, b impl.Frac) {
		if !impl.FracLess(a, b) {
			return
		}
		x, ok1 := impl.FracAdd(a, frac(1, 4))
		y, ok2 := impl.FracAdd(b, frac(1, 4))
		if ok1 && ok2 {
			moved++
			if !impl.FracLess(x, y) {
				t.Fatalf("FracLess holds for %s and %s, and not with 1/4 added", named(a), named(b))
			}
		}
		sum, ok1 := impl.FracAdd(a, b)
		middle, ok2 := impl.FracMul(sum, frac(1, 2))
		if ok1 && ok2 {
			middles++
			if !impl.FracLess(a, middle) || !impl.FracLess(middle, b) {
				t.Fatalf("the middle %s does not lie between %s and %s", named(middle), named(a), named(b))
			}
		}
	})
	wantOften(t, moved, 1000)
	wantOften(t, middles, 1000)
}

func TestP27FracFloorMovedAndOpposite(t *testing.T) {
	times := 0
	for _, a := range sampleFracs() {
		n, ok := impl.FracFloor(a)
		if !ok {
			t.Fatalf("FracFloor(%s) failed", named(a))
		}
		for step := -20; step <= 20; step++ {
			sum, ok := impl.FracAdd(a, frac(step, 1))
			if ok {
				times++
				m, ok := impl.FracFloor(sum)
				wantPair(t, "FracFloor of "+named(sum), m, ok, n+step, true)
			}
		}
		want := -n
		if a.Den != 1 {
			want--
		}
		m, ok := impl.FracFloor(opposite(a))
		wantPair(t, "FracFloor of "+named(opposite(a)), m, ok, want, true)
	}
	wantOften(t, times, 2000)
}

func TestP28FracDivIsAProduct(t *testing.T) {
	times := 0
	forPairs(func(a impl.Frac, b impl.Frac) {
		q, ok1 := impl.FracDiv(a, b)
		turned, ok2 := impl.FracDiv(frac(1, 1), b)
		if b.Num != 0 && !ok2 {
			t.Fatalf("%s failed", namedPair("FracDiv", frac(1, 1), b))
		}
		if ok1 && ok2 {
			times++
			p, ok := impl.FracMul(a, turned)
			wantFrac(t, namedPair("FracMul", a, turned), p, ok, q, true)
		}
	})
	wantOften(t, times, 3000)
}

func TestP29FracSubOfItselfAndOfTheFirst(t *testing.T) {
	times := 0
	forPairs(func(a impl.Frac, b impl.Frac) {
		d, ok := impl.FracSub(a, b)
		if !ok {
			return
		}
		times++
		zero, ok := impl.FracSub(a, a)
		wantFrac(t, namedPair("FracSub", a, a), zero, ok, frac(0, 1), true)
		back, ok := impl.FracSub(d, a)
		wantFrac(t, namedPair("FracSub", d, a), back, ok, opposite(b), true)
	})
	wantOften(t, times, 5000)
}
