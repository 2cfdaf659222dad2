package tests

import (
	"math"
	"math/big"
	"math/rand/v2"
	"slices"
	"strconv"
	"testing"

	"loop.example/icecores/impl"
)

const mostKnots = 12

// spoiledKnot is no knot of a curve; the tests write it over memory that no function may use.
var spoiledKnot = impl.Knot{X: -7, Y: -8}

func knot(x int, y int) impl.Knot {
	return impl.Knot{X: x, Y: y}
}

// curveOf returns the knots with each two numbers of a list as X and Y.
func curveOf(numbers ...int) []impl.Knot {
	c := []impl.Knot{}
	for i := 0; i+1 < len(numbers); i += 2 {
		c = append(c, knot(numbers[i], numbers[i+1]))
	}
	return c
}

// lineOf returns a number of knots on one line, from the first one on in equal steps.
func lineOf(number int, first impl.Knot, width int, height int) []impl.Knot {
	c := []impl.Knot{}
	for i := range number {
		c = append(c, knot(first.X+i*width, first.Y+i*height))
	}
	return c
}

// wholeLine is the line from 0 to DepthMax, on which X and Y are equal.
func wholeLine() []impl.Knot {
	return curveOf(0, 0, deepest, deepest)
}

func namedCurve(c []impl.Knot) string {
	return listText(c, 5*mostKnots, "knots", func(k impl.Knot) string { return strconv.Itoa(k.X) + "," + strconv.Itoa(k.Y) })
}

// namedOn returns the text of a call with a curve and numbers.
func namedOn(name string, c []impl.Knot, numbers ...int) string {
	return callText(name, namedCurve(c), numbers...)
}

func namedThen(a []impl.Knot, b []impl.Knot, x int) string {
	return "CurveThen(" + namedCurve(a) + ", " + namedCurve(b) + ", " + strconv.Itoa(x) + ")"
}

// ascendingKnots returns all lists of ascending knots from a first to a last one.
func ascendingKnots(first impl.Knot, last impl.Knot) [][]impl.Knot {
	list := [][]impl.Knot{{}}
	for x := first.X; x <= last.X; x++ {
		for y := first.Y; y <= last.Y; y++ {
			for _, rest := range ascendingKnots(knot(x+1, y+1), last) {
				list = append(list, slices.Concat(curveOf(x, y), rest))
			}
		}
	}
	return list
}

// curvesWithin returns all curves with knots from a first to a last one.
func curvesWithin(first impl.Knot, last impl.Knot) [][]impl.Knot {
	return slices.DeleteFunc(ascendingKnots(first, last), func(c []impl.Knot) bool { return len(c) < 2 })
}

// longCurves have as many knots as are allowed or one less, or reach from end to end.
func longCurves() [][]impl.Knot {
	bent, steep := []impl.Knot{}, []impl.Knot{}
	for i := range mostKnots {
		bent = append(bent, knot(2727*i, 240*i*i+i))
		steep = append(steep, knot(i, 2000*i+(i*i*i)%7))
	}
	zigzag := curveOf(0, 0, 1, 10, 11, 11, 12, 21, 22, 22, 23, 32, 33, 33, 34, 43, 44, 44, 45, 54, 55, 55, 56, 66)
	return [][]impl.Knot{
		wholeLine(), curveOf(0, 0, 1, deepest), curveOf(0, 0, deepest, 1), curveOf(0, 29999, deepest, deepest), curveOf(29999, 0, deepest, deepest),
		curveOf(0, 0, 29999, 1, deepest, deepest), curveOf(0, 0, 1, 29999, deepest, deepest), curveOf(29999, 29999, deepest, deepest),
		curveOf(0, 0, 29989, 29983), curveOf(1, 17, 29960, 29978), curveOf(0, 0, 29999, 5255), curveOf(0, 1, 29989, 19099), curveOf(0, 0, 29999, 25000), curveOf(0, 0, 29997, 20000),
		lineOf(mostKnots, knot(0, 0), 2727, 2727), lineOf(mostKnots, knot(3, 29989), 2727, 1), lineOf(mostKnots, knot(29989, 29989), 1, 1), lineOf(mostKnots-1, knot(0, 7), 6, 4),
		lineOf(mostKnots-1, knot(0, 0), 3000, 3000), lineOf(3, knot(0, 5), 2, 3), slices.Concat(lineOf(6, knot(0, 0), 2, 4), lineOf(6, knot(11, 21), 4, 2)),
		bent, bent[1:], steep, steep[:mostKnots-1], zigzag, zigzag[:mostKnots-1], zigzag[2:9],
	}
}

// mixedCurves are the same ones in each run: some of their steps lie in one direction with the step ahead.
func mixedCurves(number int) [][]impl.Knot {
	r := rand.New(rand.NewPCG(11, 66))
	list := [][]impl.Knot{}
	for i := range number {
		longest := []int{2, 9, 200, 2500}[i%4]
		k := knot(r.IntN(longest), r.IntN(longest))
		c := []impl.Knot{k}
		step := knot(1+r.IntN(longest), 1+r.IntN(longest))
		for range 1 + r.IntN(mostKnots-1) {
			if r.IntN(2) == 0 {
				step = knot(1+r.IntN(longest), 1+r.IntN(longest))
			}
			k = knot(k.X+step.X, k.Y+step.Y)
			if k.X <= deepest && k.Y <= deepest {
				c = append(c, k)
			}
		}
		if len(c) >= 2 {
			list = append(list, c)
		}
	}
	return list
}

// sampleCurves returns all curves of a few knots at both ends, and long and mixed ones.
func sampleCurves() [][]impl.Knot {
	return slices.Concat(
		curvesWithin(knot(0, 0), knot(4, 4)), curvesWithin(knot(deepest-3, deepest-3), knot(deepest, deepest)), curvesWithin(knot(0, deepest-2), knot(3, deepest)),
		longCurves(), mixedCurves(80),
	)
}

// pairCurves returns as many curves as a test of all pairs of them has time for.
func pairCurves() [][]impl.Knot {
	return slices.Concat(
		curvesWithin(knot(0, 0), knot(2, 2)), curvesWithin(knot(0, 1), knot(1, 4)), curvesWithin(knot(deepest-1, deepest-1), knot(deepest, deepest)),
		longCurves(), mixedCurves(30),
	)
}

// badKnots are outside of the range in X, in Y, or both, next to it and far away.
func badKnots() []impl.Knot {
	list := []impl.Knot{spoiledKnot}
	for _, n := range []int{-1, deepest + 1, -1 << 32, 1 << 32, 1<<32 + 5, math.MinInt, math.MinInt + 1, math.MaxInt - 1, math.MaxInt} {
		list = append(list, knot(n, 5), knot(5, n), knot(n, n), knot(n, -1), knot(math.MaxInt, n), knot(n, math.MinInt))
	}
	return list
}

// noCurves break each condition of a curve alone and with others, at each end of a list and inside.
func noCurves() [][]impl.Knot {
	list := [][]impl.Knot{
		nil, {}, curveOf(0, 0), curveOf(5, 9), curveOf(deepest, deepest),
		curveOf(5, 5, 5, 6), curveOf(5, 5, 6, 5), curveOf(5, 5, 5, 5), curveOf(6, 5, 5, 6), curveOf(5, 6, 6, 5), curveOf(6, 6, 5, 5), curveOf(deepest, deepest, 0, 0), curveOf(0, deepest, deepest, 0),
		curveOf(0, 0, 0, deepest), curveOf(0, 0, deepest, 0), curveOf(0, 0, 5, 5, 9, 5), curveOf(0, 0, 5, 5, 5, 9), curveOf(0, 0, 5, 5, 9, 4), curveOf(0, 0, 5, 5, 4, 9), curveOf(1, 0, 1, 5, 9, 9), curveOf(0, 5, 5, 4, 9, 9),
		curveOf(-1, 0, 5, 5), curveOf(0, -1, 5, 5), curveOf(-1, -1, deepest, deepest), curveOf(0, 0, deepest, deepest+1), curveOf(0, 0, deepest+1, deepest), curveOf(0, 0, deepest, deepest, deepest+1, deepest+1),
		lineOf(mostKnots+1, knot(0, 0), 1, 1), lineOf(mostKnots+1, knot(5, 0), 2000, 2500), lineOf(mostKnots+1, knot(29988, 29988), 1, 1), lineOf(2*mostKnots, knot(0, 0), 3, 2), lineOf(1000, knot(0, 0), 1, 1), lineOf(deepest+1, knot(0, 0), 1, 1),
	}
	for _, c := range [][]impl.Knot{curveOf(0, 0, 10, 10), curveOf(0, 0, 4, 4, 10, 10), lineOf(mostKnots, knot(0, 0), 10, 20)} {
		for i := range c {
			for _, k := range badKnots() {
				list = append(list, replaced(c, i, k))
			}
			list = append(list, slices.Insert(slices.Clone(c), i, c[i]))
		}
		list = append(list, inOppositeOrder(c))
	}
	return list
}

// isCurve tells by each two knots whether a list is a curve.
func isCurve(c []impl.Knot) bool {
	for i, k := range c {
		if min(k.X, k.Y) < 0 || max(k.X, k.Y) > deepest {
			return false
		}
		for _, ahead := range c[:i] {
			if ahead.X >= k.X || ahead.Y >= k.Y {
				return false
			}
		}
	}
	return len(c) >= 2 && len(c) <= mostKnots
}

// placesOf returns the X of all knots, next to them and between them, in order.
func placesOf(c []impl.Knot) []int {
	list := []int{}
	for i, k := range c {
		list = append(list, k.X-1, k.X, k.X+1)
		if i > 0 {
			list = append(list, (c[i-1].X+k.X)/2, (2*c[i-1].X+k.X)/3)
		}
	}
	list = slices.DeleteFunc(list, func(x int) bool { return x < c[0].X || x > c[len(c)-1].X })
	slices.Sort(list)
	return slices.Compact(list)
}

// placesOutside returns what is no X of a curve, next to it and far away.
func placesOutside(c []impl.Knot) []int {
	list := append(outsideDepths(), 0, deepest, 1000000000, 1000000001, c[0].X-1, c[len(c)-1].X+1)
	return slices.DeleteFunc(list, func(x int) bool { return c[0].X <= x && x <= c[len(c)-1].X })
}

// outsideIndexes are no indexes of two knots of a curve that follow each other.
func outsideIndexes(c []impl.Knot) []int {
	return []int{-1, -2, len(c) - 1, len(c), len(c) + 1, -1 << 32, 1 << 32, math.MinInt, math.MinInt + 1, math.MaxInt - 1, math.MaxInt}
}

func ratInt(n int) *big.Rat {
	return new(big.Rat).SetInt64(int64(n))
}

// exactAt computes the Y of a curve in another way: both knots around an X, each one with the distance
// of the other one as its weight, in exact numbers. It returns nil at an X that is not on the curve.
func exactAt(c []impl.Knot, x *big.Rat) *big.Rat {
	for i := 1; i < len(c); i++ {
		a, b := c[i-1], c[i]
		fromA, toB := new(big.Rat).Sub(x, ratInt(a.X)), new(big.Rat).Sub(ratInt(b.X), x)
		if fromA.Sign() < 0 || toB.Sign() < 0 {
			continue
		}
		sum := new(big.Rat).Mul(ratInt(a.Y), toB)
		sum.Add(sum, fromA.Mul(fromA, ratInt(b.Y)))
		return sum.Quo(sum, ratInt(b.X-a.X))
	}
	return nil
}

// fracAt returns an exact number as a fraction, and whether there is one that is valid.
func fracAt(y *big.Rat) (impl.Frac, bool) {
	if y == nil {
		return impl.Frac{}, false
	}
	return fracOfRat(y)
}

// exactThen returns what CurveThen of two curves is to return.
func exactThen(a []impl.Knot, b []impl.Knot, x int) (impl.Frac, bool) {
	y := exactAt(a, ratInt(x))
	if y == nil {
		return impl.Frac{}, false
	}
	return fracAt(exactAt(b, y))
}

// forCurves calls a check with each of the sample curves.
func forCurves(check func(c []impl.Knot)) {
	for _, c := range sampleCurves() {
		check(c)
	}
}

// forPlacesOn calls a check with each sample curve and each X on it that is near its knots.
func forPlacesOn(check func(c []impl.Knot, x int)) {
	forCurves(func(c []impl.Knot) {
		for _, x := range placesOf(c) {
			check(c, x)
		}
	})
}

// forSlopes calls a check with each sample curve and each index of two knots that follow each other.
func forSlopes(check func(c []impl.Knot, k int)) {
	forCurves(func(c []impl.Knot) {
		for k := range len(c) - 1 {
			check(c, k)
		}
	})
}

// forThens calls a check with two curves and an X for which CurveThen succeeds, and its result.
func forThens(t *testing.T, check func(a []impl.Knot, b []impl.Knot, x int, y impl.Frac)) {
	t.Helper()
	times := 0
	list := pairCurves()
	for _, a := range list {
		places := placesOf(a)
		for _, b := range list {
			for _, x := range places {
				if y, ok := impl.CurveThen(a, b, x); ok {
					times++
					check(a, b, x, y)
				}
			}
		}
	}
	wantOften(t, times, 5000)
}

// furtherKnots returns knots that can be added to a curve, and others.
func furtherKnots(c []impl.Knot) []impl.Knot {
	list := []impl.Knot{knot(0, 0), knot(deepest, deepest), knot(0, deepest), knot(deepest, 0)}
	for i, k := range c {
		list = append(list, k, knot(k.X-1, k.Y-1), knot(k.X+1, k.Y+1), knot(k.X-1, k.Y), knot(k.X, k.Y+1), knot(k.X+1, k.Y-1))
		if i > 0 {
			list = append(list, knot((c[i-1].X+k.X)/2, (c[i-1].Y+k.Y)/2), knot((c[i-1].X+2*k.X)/3, (2*c[i-1].Y+k.Y)/3))
		}
	}
	return list
}

// forAdds calls a check with each sample curve and each further knot for which CurveAdd succeeds, and its result.
func forAdds(t *testing.T, check func(c []impl.Knot, k impl.Knot, longer []impl.Knot)) {
	t.Helper()
	times := 0
	forCurves(func(c []impl.Knot) {
		for _, k := range furtherKnots(c) {
			if longer, ok := impl.CurveAdd(c, k); ok {
				times++
				check(c, k, longer)
			}
		}
	})
	wantOften(t, times, 500)
}

func wantCurve(t *testing.T, call string, got []impl.Knot, ok bool, want []impl.Knot, wantOk bool) {
	t.Helper()
	if !slices.Equal(got, want) || ok != wantOk {
		t.Fatalf("%s returned %s, %t, not %s, %t", call, namedCurve(got), ok, namedCurve(want), wantOk)
	}
}

func wantCurveValid(t *testing.T, c []impl.Knot, want bool) {
	t.Helper()
	if got := impl.CurveValid(c); got != want {
		t.Fatalf("%s returned %t", namedOn("CurveValid", c), got)
	}
}

func wantAt(t *testing.T, c []impl.Knot, x int, want impl.Frac, wantOk bool) {
	t.Helper()
	got, ok := impl.CurveAt(c, x)
	wantFrac(t, namedOn("CurveAt", c, x), got, ok, want, wantOk)
}

func wantTurn(t *testing.T, c []impl.Knot, want []impl.Knot, wantOk bool) {
	t.Helper()
	got, ok := impl.CurveTurn(c)
	wantCurve(t, namedOn("CurveTurn", c), got, ok, want, wantOk)
}

func wantThen(t *testing.T, a []impl.Knot, b []impl.Knot, x int, want impl.Frac, wantOk bool) {
	t.Helper()
	got, ok := impl.CurveThen(a, b, x)
	wantFrac(t, namedThen(a, b, x), got, ok, want, wantOk)
}

func wantAdd(t *testing.T, c []impl.Knot, k impl.Knot, want []impl.Knot, wantOk bool) {
	t.Helper()
	got, ok := impl.CurveAdd(c, k)
	wantCurve(t, namedOn("CurveAdd", c, k.X, k.Y), got, ok, want, wantOk)
}

func wantLean(t *testing.T, c []impl.Knot, want []impl.Knot, wantOk bool) {
	t.Helper()
	got, ok := impl.CurveLean(c)
	wantCurve(t, namedOn("CurveLean", c), got, ok, want, wantOk)
}

func wantSlope(t *testing.T, c []impl.Knot, k int, want impl.Frac, wantOk bool) {
	t.Helper()
	got, ok := impl.CurveSlope(c, k)
	wantFrac(t, namedOn("CurveSlope", c, k), got, ok, want, wantOk)
}

// wantNoCurve checks that every function tells that a list is no curve, whatever its other arguments.
func wantNoCurve(t *testing.T, list []impl.Knot) {
	t.Helper()
	wantCurveValid(t, list, false)
	wantTurn(t, list, nil, false)
	wantLean(t, list, nil, false)
	for _, n := range []int{-1, 0, 1, 5, 10, deepest, deepest + 1, math.MinInt, math.MaxInt} {
		wantAt(t, list, n, impl.Frac{}, false)
		wantThen(t, list, wholeLine(), n, impl.Frac{}, false)
		wantThen(t, wholeLine(), list, n, impl.Frac{}, false)
		wantThen(t, list, list, n, impl.Frac{}, false)
		wantSlope(t, list, n, impl.Frac{}, false)
	}
	for _, k := range []impl.Knot{knot(0, 0), knot(1, 1), knot(6, 6), knot(7, 8), knot(deepest, deepest), spoiledKnot, knot(math.MinInt, math.MaxInt)} {
		wantAdd(t, list, k, nil, false)
	}
}

// valueAt returns CurveAt, which must not fail.
func valueAt(t *testing.T, c []impl.Knot, x int) impl.Frac {
	t.Helper()
	y, ok := impl.CurveAt(c, x)
	if !ok {
		t.Fatalf("%s failed", namedOn("CurveAt", c, x))
	}
	return y
}

// turned returns CurveTurn, which must not fail.
func turned(t *testing.T, c []impl.Knot) []impl.Knot {
	t.Helper()
	got, ok := impl.CurveTurn(c)
	if !ok {
		t.Fatalf("%s failed", namedOn("CurveTurn", c))
	}
	return got
}

// leanOf returns CurveLean, which must not fail.
func leanOf(t *testing.T, c []impl.Knot) []impl.Knot {
	t.Helper()
	got, ok := impl.CurveLean(c)
	if !ok {
		t.Fatalf("%s failed", namedOn("CurveLean", c))
	}
	return got
}

// slopeOf returns CurveSlope, which must not fail.
func slopeOf(t *testing.T, c []impl.Knot, k int) impl.Frac {
	t.Helper()
	got, ok := impl.CurveSlope(c, k)
	if !ok {
		t.Fatalf("%s failed", namedOn("CurveSlope", c, k))
	}
	return got
}

func TestKnotsMax(t *testing.T) {
	if impl.KnotsMax != mostKnots {
		t.Errorf("KnotsMax is %d", impl.KnotsMax)
	}
}

func TestCurveValidExamples(t *testing.T) {
	forCurves(func(c []impl.Knot) { wantCurveValid(t, c, true) })
	for _, c := range [][]impl.Knot{curveOf(0, 0, 1, 1), wholeLine(), curveOf(29999, 29999, deepest, deepest), curveOf(0, 10, 4, 16, 6, 19, 10, 20), lineOf(mostKnots, knot(0, 0), 1, 1)} {
		wantCurveValid(t, c, true)
	}
}

func TestNoCurves(t *testing.T) {
	for _, list := range noCurves() {
		wantNoCurve(t, list)
	}
}

// TestEveryShortListOfKnots checks every list of up to three knots at both ends of the range.
func TestEveryShortListOfKnots(t *testing.T) {
	for _, ends := range [][2]int{{-1, 2}, {deepest - 2, deepest + 1}} {
		knots := []impl.Knot{}
		for x := ends[0]; x <= ends[1]; x++ {
			for y := ends[0]; y <= ends[1]; y++ {
				knots = append(knots, knot(x, y))
			}
		}
		valid := 0
		check := func(list []impl.Knot) {
			want := isCurve(list)
			wantCurveValid(t, list, want)
			if want {
				valid++
			} else {
				wantNoCurve(t, list)
			}
		}
		for _, a := range knots {
			check([]impl.Knot{a})
			for _, b := range knots {
				check([]impl.Knot{a, b})
				for _, c := range knots {
					check([]impl.Knot{a, b, c})
				}
			}
		}
		// Two of three X and two of three Y, or all of them.
		wantNumber(t, "the number of curves", valid, 3*3+1)
	}
}

func TestCurveAtExamples(t *testing.T) {
	c := curveOf(2, 10, 6, 16, 8, 19, 12, 20)
	for _, e := range []struct {
		x    int
		want impl.Frac
	}{
		{2, frac(10, 1)}, {3, frac(23, 2)}, {4, frac(13, 1)}, {5, frac(29, 2)}, {6, frac(16, 1)}, {7, frac(35, 2)}, {8, frac(19, 1)}, {9, frac(77, 4)}, {10, frac(39, 2)}, {11, frac(79, 4)}, {12, frac(20, 1)},
	} {
		wantAt(t, c, e.x, e.want, true)
	}
	for _, x := range append(outsideDepths(), 0, 1, 13, 14, deepest) {
		wantAt(t, c, x, impl.Frac{}, false)
	}
	wantAt(t, wholeLine(), 0, frac(0, 1), true)
	wantAt(t, wholeLine(), deepest, frac(deepest, 1), true)
	wantAt(t, curveOf(0, 29999, deepest, deepest), 29999, frac(899999999, deepest), true)
	wantAt(t, curveOf(0, 0, deepest, 1), 1, frac(1, deepest), true)
	wantAt(t, curveOf(0, 0, 29999, 1, deepest, deepest), 29998, frac(29998, 29999), true)
}

func TestCurveAtIsExact(t *testing.T) {
	forCurves(func(c []impl.Knot) {
		for _, x := range append(placesOf(c), placesOutside(c)...) {
			want, wantOk := fracAt(exactAt(c, ratInt(x)))
			wantAt(t, c, x, want, wantOk)
		}
	})
}

func TestCurveTurnExamples(t *testing.T) {
	wantTurn(t, curveOf(0, 10, 4, 16, 6, 19, 10, 20), curveOf(10, 0, 16, 4, 19, 6, 20, 10), true)
	wantTurn(t, curveOf(0, 1, deepest, deepest), curveOf(1, 0, deepest, deepest), true)
	wantTurn(t, wholeLine(), wholeLine(), true)
	wantTurn(t, lineOf(mostKnots, knot(3, 29989), 2727, 1), lineOf(mostKnots, knot(29989, 3), 1, 2727), true)
}

func TestCurveThenExamples(t *testing.T) {
	a, b := curveOf(0, 10, 4, 16, 6, 19, 10, 20), curveOf(10, 0, 20, 5)
	for _, e := range []struct {
		x    int
		want impl.Frac
	}{
		{0, frac(0, 1)}, {1, frac(3, 4)}, {2, frac(3, 2)}, {4, frac(3, 1)}, {5, frac(15, 4)}, {6, frac(9, 2)}, {7, frac(37, 8)}, {9, frac(39, 8)}, {10, frac(5, 1)},
	} {
		wantThen(t, a, b, e.x, e.want, true)
	}
	for _, x := range append(outsideDepths(), 11, 12, deepest) {
		wantThen(t, a, b, x, impl.Frac{}, false)
	}
	// The Y of 23/2 at 1 lies ahead of the second curve, on its ends, and behind it.
	wantThen(t, a, curveOf(12, 0, 20, 5), 1, impl.Frac{}, false)
	wantThen(t, a, curveOf(11, 0, 12, 5), 1, frac(5, 2), true)
	wantThen(t, a, curveOf(0, 0, 11, 5), 1, impl.Frac{}, false)
	wantThen(t, a, curveOf(0, 0, 12, 12), 1, frac(23, 2), true)
	// The Y of 13 at 2 does so as a whole one.
	wantThen(t, a, curveOf(14, 3, 20, 5), 2, impl.Frac{}, false)
	wantThen(t, a, curveOf(13, 3, 20, 5), 2, frac(3, 1), true)
	wantThen(t, a, curveOf(0, 3, 13, 5), 2, frac(5, 1), true)
	wantThen(t, a, curveOf(0, 3, 12, 5), 2, impl.Frac{}, false)
	wantThen(t, a, curveOf(10, 0, 13, 5, 20, 6), 2, frac(5, 1), true)
	wantThen(t, a, curveOf(10, 0, 13, 5, 20, 6), 4, frac(38, 7), true)
}

func TestCurveThenNearTheLimitOfFractions(t *testing.T) {
	wantThen(t, curveOf(0, 0, 29999, 25000), curveOf(0, 0, 29997, 20000), 2, frac(1000000000, 29999*29997), true)
	wantThen(t, curveOf(0, 0, 29999, 5255), curveOf(0, 1, 29989, 19099), 1, impl.Frac{}, false) // 1000000001 / (29999 * 29989)
	wantThen(t, curveOf(0, 0, 29999, 25000), curveOf(0, 0, 29997, 20000), 3, frac(500000000, 29999*9999), true)
	wantThen(t, curveOf(0, 0, 29999, 25000), curveOf(0, 0, 29997, 20000), 29998, impl.Frac{}, false)
	// The whole way leads back, with great products on it.
	wantThen(t, curveOf(0, 0, 29989, 29983), curveOf(0, 0, 29983, 29989), 29988, frac(29988, 1), true)
}

func TestCurveThenIsExact(t *testing.T) {
	succeeded, outside, beyond := 0, 0, 0
	list := pairCurves()
	for _, a := range list {
		places := append(placesOf(a), a[0].X-1, a[len(a)-1].X+1)
		for _, b := range list {
			for _, x := range places {
				want, wantOk := exactThen(a, b, x)
				wantThen(t, a, b, x, want, wantOk)
				y := exactAt(a, ratInt(x))
				switch {
				case wantOk:
					succeeded++
				case y == nil || exactAt(b, y) == nil:
					outside++
				default:
					beyond++
				}
			}
		}
	}
	wantOften(t, succeeded, 5000)
	wantOften(t, outside, 5000)
	wantOften(t, beyond, 500)
}

// TestCurveThenAtTheEndsOfTheSecondCurve takes second curves that end at the integers around the Y of the first one.
func TestCurveThenAtTheEndsOfTheSecondCurve(t *testing.T) {
	broken := 0
	forPlacesOn(func(a []impl.Knot, x int) {
		y := valueAt(t, a, x)
		if y.Den > 1 {
			broken++
		}
		for near := y.Num/y.Den - 1; near <= y.Num/y.Den+2; near++ {
			for _, b := range [][]impl.Knot{curveOf(near, 3, deepest, 8), curveOf(0, 3, near, 8)} {
				if isCurve(b) {
					want, wantOk := exactThen(a, b, x)
					wantThen(t, a, b, x, want, wantOk)
				}
			}
		}
	})
	wantOften(t, broken, 500)
}

func TestCurveAddExamples(t *testing.T) {
	c := curveOf(2, 10, 6, 16, 8, 19, 12, 20)
	for _, e := range []struct {
		place int
		k     impl.Knot
	}{
		{0, knot(0, 0)}, {0, knot(1, 9)}, {0, knot(0, 9)}, {1, knot(3, 11)}, {1, knot(3, 13)}, {1, knot(5, 15)}, {2, knot(7, 17)}, {2, knot(7, 18)},
		{4, knot(13, 21)}, {4, knot(deepest, 21)}, {4, knot(13, deepest)}, {4, knot(deepest, deepest)},
	} {
		wantAdd(t, c, e.k, slices.Insert(slices.Clone(c), e.place, e.k), true)
	}
	for _, k := range []impl.Knot{
		knot(0, 10), knot(0, 11), knot(1, 10), knot(1, 20), knot(-1, 0), knot(-1, 9), knot(0, -1), knot(1, -1), // ahead of the first one
		knot(13, 20), knot(13, 19), knot(13, 0), knot(deepest, 20), knot(deepest+1, 21), knot(13, deepest+1), // behind the last one
		knot(2, 10), knot(2, 11), knot(2, 9), knot(6, 16), knot(6, 15), knot(6, 17), knot(8, 19), knot(12, 20), knot(12, 21), // at an X that is there
		knot(3, 10), knot(3, 16), knot(5, 9), knot(7, 16), knot(7, 19), knot(9, 19), knot(9, 20), knot(11, 20), knot(11, 21), knot(9, 0), // not between both neighbors
	} {
		wantAdd(t, c, k, nil, false)
	}
	wantAdd(t, curveOf(0, 0, deepest, deepest), knot(1, 29999), curveOf(0, 0, 1, 29999, deepest, deepest), true)
	wantAdd(t, curveOf(1, 1, 29999, 29999), knot(0, 0), curveOf(0, 0, 1, 1, 29999, 29999), true)
	wantAdd(t, curveOf(1, 1, 29999, 29999), knot(deepest, deepest), curveOf(1, 1, 29999, 29999, deepest, deepest), true)
}

func TestCurveAddWithBadKnots(t *testing.T) {
	forCurves(func(c []impl.Knot) {
		for _, k := range badKnots() {
			wantAdd(t, c, k, nil, false)
		}
	})
}

func TestCurveAddOfManyKnots(t *testing.T) {
	c := lineOf(mostKnots-1, knot(5, 5), 10, 10)
	for i := range mostKnots {
		k := knot(10*i, 10*i)
		full := slices.Insert(slices.Clone(c), i, k)
		wantAdd(t, c, k, full, true)
		for n := range 130 {
			wantAdd(t, full, knot(n, n), nil, false)
		}
	}
}

// TestCurveAddAgainstTheDefinition puts the knot at each place at which the X ascend.
func TestCurveAddAgainstTheDefinition(t *testing.T) {
	succeeded, failed := 0, 0
	forCurves(func(c []impl.Knot) {
		for _, k := range furtherKnots(c) {
			var want []impl.Knot
			for i := range len(c) + 1 {
				if longer := slices.Insert(slices.Clone(c), i, k); isCurve(longer) {
					want = longer
				}
			}
			wantAdd(t, c, k, want, want != nil)
			if want != nil {
				succeeded++
			} else {
				failed++
			}
		}
	})
	wantOften(t, succeeded, 500)
	wantOften(t, failed, 500)
}

func TestCurveLeanExamples(t *testing.T) {
	for _, e := range []struct{ c, want []impl.Knot }{
		{curveOf(0, 10, 4, 16, 6, 19, 10, 20), curveOf(0, 10, 6, 19, 10, 20)},
		{curveOf(0, 0, 1, 1), curveOf(0, 0, 1, 1)}, {wholeLine(), wholeLine()},
		{lineOf(3, knot(0, 5), 2, 3), curveOf(0, 5, 4, 11)}, {lineOf(mostKnots, knot(0, 0), 2727, 2727), curveOf(0, 0, 29997, 29997)}, {lineOf(mostKnots, knot(3, 29989), 2727, 1), curveOf(3, 29989, 30000, deepest)},
		{slices.Concat(lineOf(6, knot(0, 0), 2, 4), lineOf(6, knot(11, 21), 4, 2)), curveOf(0, 0, 10, 20, 11, 21, 31, 31)},
		{slices.Concat(lineOf(6, knot(0, 0), 2, 4), lineOf(6, knot(14, 22), 4, 2)), curveOf(0, 0, 10, 20, 34, 32)},
		{curveOf(0, 0, 1, 1, 2, 2, 3, 4, 4, 6, 5, 7), curveOf(0, 0, 2, 2, 4, 6, 5, 7)},
		{curveOf(0, 0, 2, 2, 3, 4, 5, 5), curveOf(0, 0, 2, 2, 3, 4, 5, 5)}, {curveOf(0, 0, 2, 1, 3, 3, 5, 5), curveOf(0, 0, 2, 1, 3, 3, 5, 5)}, // an inner knot on the line from end to end, but not on that to the next one
		{curveOf(0, 0, 29999, 29998, deepest, deepest), curveOf(0, 0, 29999, 29998, deepest, deepest)}, {curveOf(0, 0, 1, 2, deepest, deepest), curveOf(0, 0, 1, 2, deepest, deepest)},
		{curveOf(0, 0, 15000, 15000, deepest, deepest), wholeLine()}, {curveOf(0, 0, 2, 1, 5, 3, 7, 4), curveOf(0, 0, 2, 1, 5, 3, 7, 4)},
	} {
		wantLean(t, e.c, e.want, true)
	}
}

// TestCurveLeanOfCurvesOnNoLine checks that nothing is left out where all directions differ.
func TestCurveLeanOfCurvesOnNoLine(t *testing.T) {
	bent := []impl.Knot{}
	for i := range mostKnots {
		bent = append(bent, knot(i, i*(i+1)/2))
	}
	for k := 2; k <= mostKnots; k++ {
		wantLean(t, bent[:k], bent[:k], true)
		wantLean(t, turned(t, bent[:k]), turned(t, bent[:k]), true)
	}
}

func TestCurveSlopeExamples(t *testing.T) {
	c := curveOf(0, 10, 4, 16, 6, 19, 10, 20)
	for k, want := range []impl.Frac{frac(3, 2), frac(3, 2), frac(1, 4)} {
		wantSlope(t, c, k, want, true)
	}
	wantSlope(t, curveOf(0, 0, 1, deepest), 0, frac(deepest, 1), true)
	wantSlope(t, curveOf(0, 0, deepest, 1), 0, frac(1, deepest), true)
	wantSlope(t, wholeLine(), 0, frac(1, 1), true)
	full := lineOf(mostKnots, knot(1, 2), 6, 4)
	for k := range mostKnots - 1 {
		wantSlope(t, full, k, frac(2, 3), true)
	}
}

func TestCurveSlopeOutside(t *testing.T) {
	forCurves(func(c []impl.Knot) {
		for _, k := range outsideIndexes(c) {
			wantSlope(t, c, k, impl.Frac{}, false)
		}
	})
}

func TestP46FirstKnotsAreACurve(t *testing.T) {
	forCurves(func(c []impl.Knot) {
		for k := range len(c) + 1 {
			wantCurveValid(t, c[:k], k >= 2)
		}
		wantCurveValid(t, inOppositeOrder(c), false)
		wantCurveValid(t, slices.Concat(c[:1], c), false)
	})
}

func TestP47AtStaysBetweenTheEndsAndMeetsTheKnots(t *testing.T) {
	forPlacesOn(func(c []impl.Knot, x int) {
		y := valueAt(t, c, x)
		if impl.FracLess(y, frac(c[0].Y, 1)) || impl.FracLess(frac(c[len(c)-1].Y, 1), y) {
			t.Fatalf("%s returned %s", namedOn("CurveAt", c, x), named(y))
		}
		for _, k := range c {
			if k.X == x {
				wantAt(t, c, x, frac(k.Y, 1), true)
			}
		}
	})
}

func TestP48AtOfTheNextXIsGreater(t *testing.T) {
	forPlacesOn(func(c []impl.Knot, x int) {
		next, ok := impl.CurveAt(c, x+1)
		if isLast := x == c[len(c)-1].X; ok == isLast {
			t.Fatalf("%s returned %t", namedOn("CurveAt", c, x+1), ok)
		}
		if ok && !impl.FracLess(valueAt(t, c, x), next) {
			t.Fatalf("%s returned %s, which is not greater than that ahead", namedOn("CurveAt", c, x+1), named(next))
		}
	})
}

func TestP49AtFollowsTheSlope(t *testing.T) {
	forSlopes(func(c []impl.Knot, k int) {
		slope := slopeOf(t, c, k)
		for _, x := range placesOf(c[k : k+2]) {
			rise, ok := impl.FracMul(slope, frac(x-c[k].X, 1))
			want, wantOk := impl.FracAdd(frac(c[k].Y, 1), rise)
			wantAt(t, c, x, want, ok && wantOk)
		}
	})
}

func TestP50TurnLeadsBack(t *testing.T) {
	forCurves(func(c []impl.Knot) {
		other := turned(t, c)
		wantCurveValid(t, other, true)
		wantTurn(t, other, c, true)
	})
}

func TestP51ThenOfTheTurnedCurveIsTheX(t *testing.T) {
	forPlacesOn(func(c []impl.Knot, x int) {
		wantThen(t, c, turned(t, c), x, frac(x, 1), true)
	})
}

func TestP52ThenAtAWholeY(t *testing.T) {
	times := 0
	forThens(t, func(a []impl.Knot, b []impl.Knot, x int, y impl.Frac) {
		if between := valueAt(t, a, x); between.Den == 1 {
			times++
			wantAt(t, b, between.Num, y, true)
		}
	})
	wantOften(t, times, 2000)
}

func TestP53ThenOfTheLineFromEndToEnd(t *testing.T) {
	line := wholeLine()
	forPlacesOn(func(c []impl.Knot, x int) {
		y := valueAt(t, c, x)
		wantThen(t, c, line, x, y, true)
		wantThen(t, line, c, x, y, true)
	})
}

func TestP54ThenOfTheNextXIsGreater(t *testing.T) {
	times := 0
	forThens(t, func(a []impl.Knot, b []impl.Knot, x int, y impl.Frac) {
		if next, ok := impl.CurveThen(a, b, x+1); ok {
			times++
			if !impl.FracLess(y, next) {
				t.Fatalf("%s returned %s, and %s one ahead", namedThen(a, b, x+1), named(next), named(y))
			}
		}
	})
	wantOften(t, times, 2000)
}

func TestP55AddingAKnotOnTheCurveChangesNoValue(t *testing.T) {
	on := 0
	forAdds(t, func(c []impl.Knot, k impl.Knot, longer []impl.Knot) {
		wantAt(t, longer, k.X, frac(k.Y, 1), true)
		if y, ok := impl.CurveAt(c, k.X); !ok || y != frac(k.Y, 1) {
			return
		}
		on++
		for _, x := range placesOf(c) {
			wantAt(t, longer, x, valueAt(t, c, x), true)
		}
	})
	wantOften(t, on, 100)
}

func TestP56AddingTwiceFailsAndLeavingOutLeadsBack(t *testing.T) {
	forAdds(t, func(c []impl.Knot, k impl.Knot, longer []impl.Knot) {
		wantAdd(t, longer, k, nil, false)
		rest := slices.DeleteFunc(slices.Clone(longer), func(other impl.Knot) bool { return other == k })
		wantCurve(t, namedOn("CurveAdd", c, k.X, k.Y)+" without the knot", rest, true, c, true)
	})
}

func TestP57LeanKeepsAllValues(t *testing.T) {
	forCurves(func(c []impl.Knot) {
		lean := leanOf(t, c)
		if lean[0] != c[0] || lean[len(lean)-1] != c[len(c)-1] {
			t.Fatalf("%s returned %s", namedOn("CurveLean", c), namedCurve(lean))
		}
		wantLean(t, lean, lean, true)
		for _, x := range placesOf(c) {
			wantAt(t, lean, x, valueAt(t, c, x), true)
		}
	})
}

func TestP58LeanHasNoEqualSlopesInARow(t *testing.T) {
	shorter := 0
	forCurves(func(c []impl.Knot) {
		lean := leanOf(t, c)
		if len(lean) > len(c) {
			t.Fatalf("%s returned %s", namedOn("CurveLean", c), namedCurve(lean))
		}
		if len(lean) < len(c) {
			shorter++
		}
		for k := 0; k+2 < len(lean); k++ {
			if slopeOf(t, lean, k) == slopeOf(t, lean, k+1) {
				t.Fatalf("%s returned %s", namedOn("CurveLean", c), namedCurve(lean))
			}
		}
	})
	wantOften(t, shorter, 50)
}

func TestP59LeanOfTheTurnedCurve(t *testing.T) {
	forCurves(func(c []impl.Knot) {
		wantLean(t, turned(t, c), turned(t, leanOf(t, c)), true)
	})
}

func TestP60SlopeOfTheTurnedCurve(t *testing.T) {
	forSlopes(func(c []impl.Knot, k int) {
		slope := slopeOf(t, c, k)
		if !impl.FracLess(frac(0, 1), slope) {
			t.Fatalf("%s returned %s", namedOn("CurveSlope", c, k), named(slope))
		}
		want, ok := impl.FracDiv(frac(1, 1), slope)
		wantSlope(t, turned(t, c), k, want, ok)
	})
}

func TestP61AddingTurned(t *testing.T) {
	forAdds(t, func(c []impl.Knot, k impl.Knot, longer []impl.Knot) {
		wantAdd(t, turned(t, c), knot(k.Y, k.X), turned(t, longer), true)
	})
}

func TestP62ThenOfBothTurnedLeadsBack(t *testing.T) {
	times := 0
	forThens(t, func(a []impl.Knot, b []impl.Knot, x int, y impl.Frac) {
		if y.Den > 1 {
			return
		}
		first, second := turned(t, b), turned(t, a)
		if back, ok := impl.CurveThen(first, second, y.Num); ok {
			times++
			wantFrac(t, namedThen(first, second, y.Num), back, ok, frac(x, 1), true)
		}
	})
	wantOften(t, times, 1000)
}

func TestP63DoubledYAreTwiceAsGreat(t *testing.T) {
	times := 0
	forPlacesOn(func(c []impl.Knot, x int) {
		double := slices.Clone(c)
		for i := range double {
			double[i].Y *= 2
		}
		if !impl.CurveValid(double) {
			return
		}
		if want, ok := impl.FracMul(valueAt(t, c, x), frac(2, 1)); ok {
			times++
			wantAt(t, double, x, want, true)
		}
	})
	wantOften(t, times, 1000)
}

func TestP64LeanWithTheMiddleOfTheFirstKnots(t *testing.T) {
	times := 0
	forCurves(func(c []impl.Knot) {
		x, y := c[0].X+c[1].X, c[0].Y+c[1].Y
		if x%2 != 0 || y%2 != 0 || len(c) == mostKnots {
			return
		}
		times++
		longer, ok := impl.CurveAdd(c, knot(x/2, y/2))
		wantCurve(t, namedOn("CurveAdd", c, x/2, y/2), longer, ok, slices.Insert(slices.Clone(c), 1, knot(x/2, y/2)), true)
		wantLean(t, longer, leanOf(t, c), true)
	})
	wantOften(t, times, 40)
}

func TestP65SlopeFromEndToEnd(t *testing.T) {
	forCurves(func(c []impl.Knot) {
		mean := slopeOf(t, []impl.Knot{c[0], c[len(c)-1]}, 0)
		notLess, notGreater := false, false
		for k := range len(c) - 1 {
			slope := slopeOf(t, c, k)
			notLess = notLess || !impl.FracLess(slope, mean)
			notGreater = notGreater || !impl.FracLess(mean, slope)
		}
		if !notLess || !notGreater {
			t.Fatalf("the slope from end to end of %s is %s", namedCurve(c), named(mean))
		}
	})
}

func TestP66NothingIsOnTheCurveBeyondItsEnds(t *testing.T) {
	others := pairCurves()
	forCurves(func(c []impl.Knot) {
		for _, x := range placesOutside(c) {
			wantAt(t, c, x, impl.Frac{}, false)
			for _, b := range others {
				wantThen(t, c, b, x, impl.Frac{}, false)
			}
		}
	})
}

// curveMemory has calls of all functions with curves, with arguments for which they succeed and fail; a fraction is told as a knot.
func curveMemory(lists [][]impl.Knot) memoryCheck[impl.Knot] {
	asKnots := func(a impl.Frac, ok bool) ([]impl.Knot, bool) { return curveOf(a.Num, a.Den), ok }
	line := wholeLine()
	calls := map[string]listCall[impl.Knot]{
		"CurveValid": func(c []impl.Knot) ([]impl.Knot, bool) { return nil, impl.CurveValid(c) },
		"CurveTurn":  impl.CurveTurn,
		"CurveLean":  impl.CurveLean,
	}
	for _, n := range []int{-1, 0, 1, 2, 3, 7, 11, 100, 29999, deepest} {
		s := strconv.Itoa(n)
		calls["CurveAt "+s] = func(c []impl.Knot) ([]impl.Knot, bool) { return asKnots(impl.CurveAt(c, n)) }
		calls["CurveSlope "+s] = func(c []impl.Knot) ([]impl.Knot, bool) { return asKnots(impl.CurveSlope(c, n)) }
		calls["CurveThen with the first curve, at "+s] = func(c []impl.Knot) ([]impl.Knot, bool) { return asKnots(impl.CurveThen(c, line, n)) }
		calls["CurveThen with the second curve, at "+s] = func(c []impl.Knot) ([]impl.Knot, bool) { return asKnots(impl.CurveThen(line, c, n)) }
		calls["CurveThen with both curves, at "+s] = func(c []impl.Knot) ([]impl.Knot, bool) { return asKnots(impl.CurveThen(c, c, n)) }
		calls["CurveAdd of "+s] = func(c []impl.Knot) ([]impl.Knot, bool) { return impl.CurveAdd(c, knot(n, n)) }
		calls["CurveAdd below of "+s] = func(c []impl.Knot) ([]impl.Knot, bool) { return impl.CurveAdd(c, knot(n, 2*n-1)) }
	}
	return memoryCheck[impl.Knot]{lists, calls, spoiledKnot, namedCurve}
}

func TestCurveFunctionsWriteNothing(t *testing.T) {
	curveMemory(append(sampleCurves(), noCurves()...)).wantNothingWritten(t)
}

func TestCurveFunctionsShareNothing(t *testing.T) {
	curveMemory(append(pairCurves(), noCurves()[:30]...)).wantNothingShared(t)
}

func TestCurveFunctionsReadNothingBehindAList(t *testing.T) {
	curveMemory(sampleCurves()).wantNothingReadBehind(t)
}
