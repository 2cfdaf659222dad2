package tests

import (
	"cmp"
	"fmt"
	"math"
	"math/rand/v2"
	"slices"
	"strconv"
	"strings"
	"testing"

	"loop.example/icecores/impl"
)

const mostTies = 12

// spoiledTie is no tie; the tests write it over memory that no function may use.
var spoiledTie = tie(-7, -8)

func tie(a int, b int) impl.Tie {
	return impl.Tie{A: a, B: b}
}

// tiesAt returns the ties with each two numbers of a list as A and B.
func tiesAt(numbers ...int) []impl.Tie {
	return asTies(curveOf(numbers...))
}

// asTies returns the knots of a list as ties, X as A and Y as B.
func asTies(c []impl.Knot) []impl.Tie {
	return eachAs(c, func(k impl.Knot) impl.Tie { return tie(k.X, k.Y) })
}

// allAsTies returns the knots of each list as ties.
func allAsTies(lists [][]impl.Knot) [][]impl.Tie {
	return eachAs(lists, asTies)
}

// knotsOf returns a knot for each tie.
func knotsOf(list []impl.Tie) []impl.Knot {
	return eachAs(list, func(x impl.Tie) impl.Knot { return knot(x.A, x.B) })
}

// tieLine returns a number of ties from a first one on in equal steps.
func tieLine(number int, first impl.Tie, stepA int, stepB int) []impl.Tie {
	return asTies(lineOf(number, knot(first.A, first.B), stepA, stepB))
}

// tiesTurned returns the list with A and B exchanged.
func tiesTurned(list []impl.Tie) []impl.Tie {
	return eachAs(list, func(x impl.Tie) impl.Tie { return tie(x.B, x.A) })
}

func namedTies(list []impl.Tie) string {
	return listText(list, 5*mostTies, "ties", func(x impl.Tie) string { return strconv.Itoa(x.A) + "-" + strconv.Itoa(x.B) })
}

// withTies returns the text of a call with lists of ties.
func withTies(name string, lists ...[]impl.Tie) string {
	texts := []string{}
	for _, list := range lists {
		texts = append(texts, namedTies(list))
	}
	return name + "(" + strings.Join(texts, ", ") + ")"
}

// tiesWithin returns all ties with depths from first to last ones.
func tiesWithin(first impl.Tie, last impl.Tie) [][]impl.Tie {
	return allAsTies(ascendingKnots(knot(first.A, first.B), knot(last.A, last.B)))
}

// longTies have as many ties as are allowed or one less, reach from end to end, or are a single tie or none.
func longTies() [][]impl.Tie {
	return slices.Concat(allAsTies(longCurves()), [][]impl.Tie{
		nil, tiesAt(0, 0), tiesAt(0, deepest), tiesAt(deepest, 0), tiesAt(deepest, deepest), tiesAt(5, 9), tiesAt(9, 5), tiesAt(15000, 15000), tiesAt(0, 0, 15000, 7, deepest, deepest),
		tieLine(mostTies, tie(0, deepest-mostTies+1), 1, 1), tieLine(mostTies, tie(deepest-mostTies+1, 0), 1, 1), tieLine(mostTies, tie(0, 0), 1, 1), tieLine(mostTies, tie(7, 9), 2500, 2600),
	})
}

// sampleTies returns all ties of a few depths at all ends, and long and mixed ones.
func sampleTies() [][]impl.Tie {
	return slices.Concat(
		tiesWithin(tie(0, 0), tie(4, 4)), tiesWithin(tie(deepest-3, deepest-3), tie(deepest, deepest)), tiesWithin(tie(0, deepest-2), tie(2, deepest)), tiesWithin(tie(deepest-2, 0), tie(deepest, 2)),
		longTies(), allAsTies(mixedCurves(80)),
	)
}

// isTies tells by each two ties whether a list are ties.
func isTies(list []impl.Tie) bool {
	return isTiesOfAnyNumber(list) && len(list) <= mostTies
}

func isTiesOfAnyNumber(list []impl.Tie) bool {
	for i, x := range list {
		if min(x.A, x.B) < 0 || max(x.A, x.B) > deepest {
			return false
		}
		for _, earlier := range list[:i] {
			if !isAhead(earlier, x) {
				return false
			}
		}
	}
	return true
}

// isAhead tells whether a tie is ahead of another one in both cores.
func isAhead(x impl.Tie, y impl.Tie) bool {
	return x.A < y.A && x.B < y.B
}

// noTies break each condition of ties alone and with others, at each place of a list.
func noTies() [][]impl.Tie {
	list := slices.DeleteFunc(allAsTies(noCurves()), isTies)
	for _, k := range badKnots() {
		list = append(list, tiesAt(k.X, k.Y))
	}
	for _, ties := range [][]impl.Tie{tiesAt(3, 7, 9, 8), tieLine(mostTies-1, tie(5, 9), 10, 20), tieLine(mostTies, tie(0, 8), 2700, 2700)} {
		for i := 1; i < len(ties); i++ {
			x, earlier := ties[i], ties[i-1]
			list = append(list,
				replaced(ties, i, tie(earlier.A, x.B)), replaced(ties, i, tie(x.A, earlier.B)), replaced(ties, i, earlier),
				replaced(ties, i, tie(earlier.A-1, x.B)), replaced(ties, i, tie(x.A, earlier.B-1)), replaced(ties, i, tie(earlier.A-1, earlier.B-1)),
				replaced(ties, i, tie(x.B, math.MinInt)), replaced(ties, i, tie(math.MinInt, x.A)))
		}
	}
	return append(list, tieLine(mostTies+1, tie(0, 0), 2500, 2500), tieLine(mostTies+1, tie(deepest-mostTies, 0), 1, 7), tieLine(mostTies+1, tie(0, 0), 0, 0))
}

// tiePair are two lists of ties, valid or not.
type tiePair struct {
	a, b []impl.Tie
}

func (p tiePair) call(name string) string {
	return withTies(name, p.a, p.b)
}

// exchanged returns the second list as the first one.
func (p tiePair) exchanged() tiePair {
	return tiePair{p.b, p.a}
}

// turned returns both lists with A and B exchanged.
func (p tiePair) turned() tiePair {
	return tiePair{tiesTurned(p.a), tiesTurned(p.b)}
}

// isFitting tells by each two ties whether two lists fit.
func (p tiePair) isFitting() bool {
	return isTies(p.a) && isTies(p.b) && !p.has(func(x impl.Tie, y impl.Tie) bool { return x != y && !isAhead(x, y) && !isAhead(y, x) })
}

// has tells whether a tie of each list are judged so.
func (p tiePair) has(judge func(x impl.Tie, y impl.Tie) bool) bool {
	return slices.ContainsFunc(p.a, func(x impl.Tie) bool {
		return slices.ContainsFunc(p.b, func(y impl.Tie) bool { return judge(x, y) })
	})
}

// common returns the number of ties that both lists have.
func (p tiePair) common() int {
	return len(slices.DeleteFunc(slices.Clone(p.a), func(x impl.Tie) bool { return !slices.Contains(p.b, x) }))
}

// together returns all ties of two lists that fit.
func (p tiePair) together() []impl.Tie {
	all := slices.Concat(p.a, p.b)
	slices.SortFunc(all, func(x impl.Tie, y impl.Tie) int { return cmp.Compare(x.A, y.A) })
	return slices.Compact(all)
}

// through returns what follows from each tie of the first list and each of the second one.
func (p tiePair) through() []impl.Tie {
	list := []impl.Tie{}
	for _, x := range p.a {
		for _, y := range p.b {
			if x.B == y.A {
				list = append(list, tie(x.A, y.B))
			}
		}
	}
	return list
}

// between returns how many ties of the first list lie between two ties of the second one.
func (p tiePair) between() int {
	number := 0
	for _, x := range p.a {
		ahead := slices.ContainsFunc(p.b, func(y impl.Tie) bool { return isAhead(y, x) })
		behind := slices.ContainsFunc(p.b, func(y impl.Tie) bool { return isAhead(x, y) })
		if ahead && behind {
			number++
		}
	}
	return number
}

// pairsOf returns all pairs of lists.
func pairsOf(lists [][]impl.Tie) []tiePair {
	pairs := []tiePair{}
	for _, a := range lists {
		for _, b := range lists {
			pairs = append(pairs, tiePair{a, b})
		}
	}
	return pairs
}

// dealt returns two lists with ties of one, each for the first list, the second one, or both, in turn as the numbers 0, 1 and 2 of another list tell.
func dealt(list []impl.Tie, to []int) tiePair {
	p := tiePair{}
	for i, x := range list {
		whose := to[i%len(to)]
		if whose != 1 {
			p.a = append(p.a, x)
		}
		if whose != 0 {
			p.b = append(p.b, x)
		}
	}
	return p
}

// dealtPairs are pairs of lists with up to twice as many ties together as one may have: in turn, in a block between two others, all in both, and mixed.
func dealtPairs() []tiePair {
	r := rand.New(rand.NewPCG(21, 168))
	pairs := []tiePair{}
	for number := range 2*mostTies + 2 {
		for _, line := range [][]impl.Tie{tieLine(number, tie(0, 0), 1, 1), tieLine(number, tie(5, 7), 4, 6), tieLine(number, tie(0, 1000), 1200, 1100), tieLine(number, tie(deepest-3*number, deepest-number), 3, 1)} {
			third := max(1, number/3)
			deals := [][]int{{0, 1}, {0, 2}, {2}, {0}, {0, 1, 1}, {0, 1, 2}, {0, 0, 2, 1}, slices.Concat(equalRow(third, 0), equalRow(third, 1), equalRow(third+2, 0)), slices.Concat(equalRow(third, 0), equalRow(2*third+2, 1))}
			for range 3 {
				deal := []int{}
				for range number + 1 {
					deal = append(deal, r.IntN(3))
				}
				deals = append(deals, deal)
			}
			for _, deal := range deals {
				p := dealt(line, deal)
				pairs = append(pairs, p, p.exchanged())
			}
		}
	}
	return pairs
}

// changedPairs are pairs of which one tie of one list is moved in A, in B, or in both, by up to two steps of their lines.
func changedPairs() []tiePair {
	pairs := []tiePair{}
	valid := slices.DeleteFunc(dealtPairs(), func(p tiePair) bool { return !isTies(p.a) || !isTies(p.b) })
	for _, p := range thinned(valid, 250) {
		for i, x := range p.b {
			for _, by := range []int{-4, -1, 1, 4, 6, 12} {
				changed := replaced(p.b, i, tie(x.A+by, x.B))
				pairs = append(pairs, tiePair{p.a, changed}, tiePair{changed, p.a}, tiePair{p.a, replaced(p.b, i, tie(x.A, x.B+by))}, tiePair{p.a, replaced(p.b, i, tie(x.A+by, x.B+by))})
			}
		}
	}
	return pairs
}

// onwardPairs are pairs of lists of which the first one leads to all, some or no depths A of the second one.
func onwardPairs() []tiePair {
	pairs := []tiePair{}
	for i, a := range slices.Concat(longTies(), allAsTies(mixedCurves(80))) {
		for n, keep := range []func(i int) bool{
			func(int) bool { return true }, func(k int) bool { return k%2 == 0 }, func(k int) bool { return k%2 == 1 }, func(k int) bool { return k == 0 }, func(k int) bool { return k == len(a)-1 }, func(k int) bool { return k > 0 && k < len(a)-1 },
		} {
			exact, beside := []impl.Tie{}, []impl.Tie{}
			for k, x := range a {
				third := []int{k, 5 + 7*k, 2500 * k, deepest - mostTies + k}[(i+n)%4]
				if keep(k) {
					exact = append(exact, tie(x.B, third))
				}
				if keep(k) || n%2 == 0 && x.B < deepest {
					beside = append(beside, tie(x.B+1-k%2, third))
				}
			}
			if isTies(beside) {
				pairs = append(pairs, tiePair{a, beside})
			}
			pairs = append(pairs, tiePair{a, exact}, tiePair{tiesTurned(exact), tiesTurned(a)})
		}
	}
	return pairs
}

// tiePairs are all pairs of lists of a few depths, long ones, those of one list, with changes and without, and such that lead on; some are no ties.
func tiePairs() []tiePair {
	return slices.Concat(
		pairsOf(tiesWithin(tie(0, 0), tie(3, 3))), pairsOf(tiesWithin(tie(deepest-2, deepest-2), tie(deepest, deepest))), pairsOf(tiesWithin(tie(0, deepest-1), tie(2, deepest))),
		pairsOf(longTies()), dealtPairs(), changedPairs(), onwardPairs(),
	)
}

func wantTies(t *testing.T, call string, got []impl.Tie, ok bool, want []impl.Tie, wantOk bool) {
	t.Helper()
	if !slices.Equal(got, want) || ok != wantOk {
		t.Fatalf("%s returned %s, %t, not %s, %t", call, namedTies(got), ok, namedTies(want), wantOk)
	}
}

func wantTiesValid(t *testing.T, list []impl.Tie, want bool) {
	t.Helper()
	if got := impl.TiesValid(list); got != want {
		t.Fatalf("%s returned %t", withTies("TiesValid", list), got)
	}
}

func wantTiesOf(t *testing.T, l eventLists, match []int, want []impl.Tie, wantOk bool) {
	t.Helper()
	got, ok := impl.TiesOf(l.a, l.b, l.tolerance, match)
	wantTies(t, l.call("TiesOf", match), got, ok, want, wantOk)
}

func wantFit(t *testing.T, p tiePair, want bool) {
	t.Helper()
	if got := impl.TiesFit(p.a, p.b); got != want {
		t.Fatalf("%s returned %t", p.call("TiesFit"), got)
	}
}

func wantJoined(t *testing.T, p tiePair, want []impl.Tie, wantOk bool) {
	t.Helper()
	got, ok := impl.TiesJoin(p.a, p.b)
	wantTies(t, p.call("TiesJoin"), got, ok, want, wantOk)
}

func wantTiesTurn(t *testing.T, list []impl.Tie, want []impl.Tie, wantOk bool) {
	t.Helper()
	got, ok := impl.TiesTurn(list)
	wantTies(t, withTies("TiesTurn", list), got, ok, want, wantOk)
}

func wantThrough(t *testing.T, p tiePair, want []impl.Tie, wantOk bool) {
	t.Helper()
	got, ok := impl.TiesThrough(p.a, p.b)
	wantTies(t, p.call("TiesThrough"), got, ok, want, wantOk)
}

func wantTiesCurve(t *testing.T, list []impl.Tie, want []impl.Knot, wantOk bool) {
	t.Helper()
	got, ok := impl.TiesCurve(list)
	wantCurve(t, withTies("TiesCurve", list), got, ok, want, wantOk)
}

// wantNotFitting checks that two lists neither fit nor are joined, in both orders.
func wantNotFitting(t *testing.T, p tiePair) {
	t.Helper()
	for _, q := range []tiePair{p, p.exchanged()} {
		wantFit(t, q, false)
		wantJoined(t, q, nil, false)
	}
}

// wantTooMany checks that two lists fit, but have too many ties to be joined, in both orders.
func wantTooMany(t *testing.T, p tiePair) {
	t.Helper()
	for _, q := range []tiePair{p, p.exchanged()} {
		wantFit(t, q, true)
		wantJoined(t, q, nil, false)
	}
}

// wantNoTies checks that every function tells that a list are no ties, whatever the other list.
func wantNoTies(t *testing.T, list []impl.Tie, others ...[]impl.Tie) {
	t.Helper()
	wantTiesValid(t, list, false)
	wantTiesTurn(t, list, nil, false)
	wantTiesCurve(t, list, nil, false)
	for _, other := range append(others, list, tiesTurned(list)) {
		p := tiePair{list, other}
		wantNotFitting(t, p)
		wantThrough(t, p, nil, false)
		wantThrough(t, p.exchanged(), nil, false)
	}
}

// turnOf returns TiesTurn, which must not fail.
func turnOf(t *testing.T, list []impl.Tie) []impl.Tie {
	t.Helper()
	got, ok := impl.TiesTurn(list)
	if !ok {
		t.Fatalf("%s failed", withTies("TiesTurn", list))
	}
	return got
}

// throughOf returns TiesThrough, which must not fail.
func throughOf(t *testing.T, a []impl.Tie, b []impl.Tie) []impl.Tie {
	t.Helper()
	got, ok := impl.TiesThrough(a, b)
	if !ok {
		t.Fatalf("%s failed", withTies("TiesThrough", a, b))
	}
	return got
}

// forTies calls a check with each of the sample ties.
func forTies(check func(list []impl.Tie)) {
	for _, list := range sampleTies() {
		check(list)
	}
}

// forCurvedTies calls a check with each of the sample ties for which TiesCurve succeeds, and its result.
func forCurvedTies(t *testing.T, check func(list []impl.Tie, c []impl.Knot)) {
	t.Helper()
	times := 0
	forTies(func(list []impl.Tie) {
		if c, ok := impl.TiesCurve(list); ok {
			times++
			check(list, c)
		}
	})
	wantOften(t, times, 400)
}

// forTiesOf calls a check with sample lists of events and matchings of them, and TiesOf of these, which must succeed.
func forTiesOf(t *testing.T, check func(l eventLists, match []int, ties []impl.Tie)) {
	t.Helper()
	forMatchings(t, func(l eventLists, match []int) {
		ties, ok := impl.TiesOf(l.a, l.b, l.tolerance, match)
		if !ok {
			t.Fatalf("%s failed", l.call("TiesOf", match))
		}
		check(l, match, ties)
	})
}

// forFits calls a check with each of the pairs for which TiesFit holds.
func forFits(t *testing.T, check func(p tiePair)) {
	t.Helper()
	times := 0
	for _, p := range tiePairs() {
		if impl.TiesFit(p.a, p.b) {
			times++
			check(p)
		}
	}
	wantOften(t, times, 5000)
}

// forJoined calls a check with each of the pairs for which TiesJoin succeeds, and its result.
func forJoined(t *testing.T, check func(p tiePair, all []impl.Tie)) {
	t.Helper()
	times := 0
	for _, p := range tiePairs() {
		if all, ok := impl.TiesJoin(p.a, p.b); ok {
			times++
			check(p, all)
		}
	}
	wantOften(t, times, 4000)
}

// forThrough calls a check with each of the pairs for which TiesThrough succeeds, and its result.
func forThrough(t *testing.T, check func(p tiePair, ties []impl.Tie)) {
	t.Helper()
	times := 0
	for _, p := range tiePairs() {
		if ties, ok := impl.TiesThrough(p.a, p.b); ok {
			times++
			check(p, ties)
		}
	}
	wantOften(t, times, 10000)
}

func TestTiesMax(t *testing.T) {
	if impl.TiesMax != mostTies {
		t.Errorf("TiesMax is %d", impl.TiesMax)
	}
}

func TestTiesValidExamples(t *testing.T) {
	for _, list := range [][]impl.Tie{
		nil, {}, {{}}, tiesAt(0, deepest), tiesAt(deepest, 0), tiesAt(deepest, deepest), tiesAt(1, 2, 5, 9), tiesAt(0, 0, 1, 1), tiesAt(0, 29999, 1, deepest), tiesAt(29999, 0, deepest, 1), tiesAt(0, 0, deepest, deepest),
		tieLine(mostTies-1, tie(3, 4), 5, 6), tieLine(mostTies, tie(0, 0), 1, 1), tieLine(mostTies, tie(deepest-mostTies+1, deepest-mostTies+1), 1, 1), tieLine(mostTies, tie(3, 0), 2727, 2727),
	} {
		wantTiesValid(t, list, true)
	}
	forTies(func(list []impl.Tie) { wantTiesValid(t, list, true) })
	for _, list := range [][]impl.Tie{
		tiesAt(-1, 0), tiesAt(0, -1), tiesAt(deepest+1, 5), tiesAt(5, deepest+1), tiesAt(math.MinInt, 5), tiesAt(5, math.MinInt), tiesAt(math.MaxInt, 5), tiesAt(5, math.MaxInt), tiesAt(math.MinInt, math.MinInt), tiesAt(math.MaxInt, math.MaxInt), {spoiledTie},
		tiesAt(5, 5, 5, 6), tiesAt(5, 5, 6, 5), tiesAt(5, 5, 5, 5), tiesAt(6, 5, 5, 6), tiesAt(5, 6, 6, 5), tiesAt(6, 6, 5, 5), tiesAt(0, 0, 5, 9, 5, 10), tiesAt(0, 0, 5, 9, 6, 9), tiesAt(0, 0, 5, 9, 4, 10), tiesAt(0, 0, 5, 9, 6, 8), tiesAt(0, 5, 1, 5, 2, 6),
		tieLine(mostTies+1, tie(0, 0), 1, 1), tieLine(mostTies+1, tie(0, 0), 2500, 2500), tieLine(1000, tie(0, 0), 1, 1),
	} {
		wantTiesValid(t, list, false)
	}
}

func TestTiesOfEveryDepth(t *testing.T) {
	for depth := -2; depth <= deepest+2; depth++ {
		valid := depth >= 0 && depth <= deepest
		for _, list := range [][]impl.Tie{tiesAt(depth, 5), tiesAt(5, depth), tiesAt(depth, depth)} {
			wantTiesValid(t, list, valid)
			if valid {
				wantTiesTurn(t, list, tiesTurned(list), true)
				wantJoined(t, tiePair{list, nil}, list, true)
			} else {
				wantNoTies(t, list, nil)
			}
		}
		wantTiesValid(t, tiesAt(100, 100, depth, 20000), depth > 100 && valid)
		wantTiesValid(t, tiesAt(depth, 100, 100, 20000), depth >= 0 && depth < 100)
		wantTiesValid(t, tiesAt(100, 100, 20000, depth), depth > 100 && valid)
		wantTiesValid(t, tiesAt(100, depth, 20000, 100), depth >= 0 && depth < 100)
	}
}

// TestEveryShortListOfTies checks every list of up to three ties at and next to both ends of the range.
func TestEveryShortListOfTies(t *testing.T) {
	valid := 0
	for number := range 4 {
		for _, numbers := range listsOf(2*number, -1, 0, 1, 2, deepest, deepest+1) {
			list := tiesAt(numbers...)
			wantTiesValid(t, list, isTies(list))
			if isTies(list) {
				valid++
			}
		}
	}
	wantNumber(t, "the number of lists of ties", valid, 1+16+36+16)
}

func TestNoTies(t *testing.T) {
	some := [][]impl.Tie{nil, tiesAt(5, 9), tiesAt(0, 0, deepest, deepest), tieLine(mostTies, tie(0, 8), 10, 20)}
	none := noTies()
	for i, list := range none {
		if isTies(list) {
			t.Fatalf("%s are ties", namedTies(list))
		}
		wantNoTies(t, list, append(some, none[i/2])...)
	}
	wantOften(t, len(none), 900)
}

func TestListsOfEveryNumberOfTies(t *testing.T) {
	for number := range 2*mostTies + 5 {
		for _, list := range [][]impl.Tie{tieLine(number, tie(0, 0), 1, 1), tieLine(number, tie(5, 9), 1000, 900), tieLine(number, tie(deepest-number, deepest-2*number), 1, 2)} {
			if number > mostTies {
				wantNoTies(t, list, nil, list[:mostTies], list[mostTies:])
				continue
			}
			wantTiesValid(t, list, true)
			wantTiesTurn(t, list, tiesTurned(list), true)
			for k := range number + 1 {
				wantFit(t, tiePair{list, list[:k]}, true)
				wantJoined(t, tiePair{list, list[k:]}, list, true)
				wantThrough(t, tiePair{list, tiesTurned(list[k:])}, tiePair{list[k:], tiesTurned(list[k:])}.through(), true)
			}
			if number < 2 {
				wantTiesCurve(t, list, nil, false)
			} else {
				wantTiesCurve(t, list, knotsOf(list), true)
			}
		}
	}
}

func TestTiesOfExamples(t *testing.T) {
	l := eventLists{eventsAt([]int{0, 20, 30}, []int{5, 9, 5}), eventsAt([]int{4, deepest}, []int{9, 6}), 1}
	for _, e := range []struct {
		match []int
		want  []impl.Tie
		ok    bool
	}{
		{[]int{-1, -1, -1}, nil, true}, {[]int{1, -1, -1}, tiesAt(0, deepest), true}, {[]int{-1, 0, -1}, tiesAt(20, 4), true}, {[]int{-1, -1, 1}, tiesAt(30, deepest), true}, {[]int{-1, 0, 1}, tiesAt(20, 4, 30, deepest), true},
		{[]int{0, -1, -1}, nil, false}, {[]int{-1, 1, -1}, nil, false}, {[]int{1, 0, -1}, nil, false}, {[]int{1, -1, 1}, nil, false}, {[]int{1, 0, 1}, nil, false},
		{nil, nil, false}, {[]int{-1, 0}, nil, false}, {[]int{-1, 0, 1, -1}, nil, false}, {[]int{-2, 0, 1}, nil, false}, {[]int{-1, 0, 2}, nil, false}, {[]int{math.MinInt, 0, 1}, nil, false}, {[]int{-1, 0, math.MaxInt}, nil, false},
	} {
		wantTiesOf(t, l, e.match, e.want, e.ok)
	}
	wantTiesOf(t, eventLists{}, nil, nil, true)
	wantTiesOf(t, eventLists{}, []int{nobody}, nil, false)
	wantTiesOf(t, eventLists{a: sized(5, 6)}, []int{nobody, nobody}, nil, true)
	wantTiesOf(t, eventLists{b: sized(5, 6)}, nil, nil, true)
	all := steps(mostEvents, 0, 1)
	alike := eventLists{a: eventsAt(steps(mostEvents, 0, 7), equalRow(mostEvents, 5)), b: eventsAt(steps(mostEvents, 5, 4000), equalRow(mostEvents, 5))}
	wantTiesOf(t, alike, all, tieLine(mostEvents, tie(0, 5), 7, 4000), true)
	wantTiesOf(t, alike.exchanged(), all, tieLine(mostEvents, tie(5, 0), 4000, 7), true)
	wantTiesOf(t, alike, equalRow(mostEvents, nobody), nil, true)
}

// exactTiesOf returns what TiesOf is to return, if two lists are events and their tolerance is valid.
func exactTiesOf(l eventLists, match []int) ([]impl.Tie, bool) {
	if !l.isMatching(match) {
		return nil, false
	}
	list := []impl.Tie{}
	for i, x := range l.a {
		for k, y := range l.b {
			if match[i] == k {
				list = append(list, tie(x.Depth, y.Depth))
			}
		}
	}
	return list, true
}

// TestTiesOfIsExact has matchings without pairs, with some and with all, and lists that are no matchings, as one number is another one, is left out or repeated.
func TestTiesOfIsExact(t *testing.T) {
	pairs, failed := map[int]int{}, 0
	check := func(l eventLists, match []int) {
		want, ok := exactTiesOf(l, match)
		wantTiesOf(t, l, match, want, ok)
		if !ok {
			failed++
		}
	}
	forMatchings(t, func(l eventLists, match []int) {
		pairs[pairsIn(match)]++
		check(l, match)
		for _, i := range thinned(steps(len(match), 0, 1), 3) {
			for _, other := range []int{nobody, -2, match[i] + 1, len(l.b), math.MaxInt} {
				check(l, replaced(match, i, other))
			}
			check(l, slices.Delete(slices.Clone(match), i, i+1))
			check(l, slices.Insert(slices.Clone(match), i, match[i]))
		}
	})
	forBestMatches(t, func(l eventLists, best []int) {
		pairs[pairsIn(best)]++
		check(l, best)
	})
	for number := range mostEvents + 1 {
		wantOften(t, pairs[number], 20)
	}
	wantOften(t, failed, 100000)
}

func TestTiesOfNoEventsAndNoTolerances(t *testing.T) {
	some := [][]impl.Event{nil, sized(5), alikeEvents(mostEvents, 500)}
	check := func(l eventLists) {
		for _, match := range [][]int{nil, {}, {nobody}, {0}, equalRow(len(l.a), nobody), steps(len(l.a), 0, 1)} {
			wantTiesOf(t, l, match, nil, false)
		}
	}
	for _, list := range noEvents() {
		for _, tolerance := range []int{0, biggest, -1} {
			for _, other := range append(some, list) {
				check(eventLists{list, other, tolerance})
				check(eventLists{other, list, tolerance})
			}
		}
	}
	for _, tolerance := range tolerancesOutside() {
		for _, a := range some {
			for _, b := range some {
				check(eventLists{a, b, tolerance})
			}
		}
	}
}

func TestTiesFitExamples(t *testing.T) {
	for _, e := range []struct {
		p    tiePair
		want []impl.Tie
	}{
		{tiePair{tiesAt(1, 2, 5, 9), tiesAt(3, 4, 5, 9)}, tiesAt(1, 2, 3, 4, 5, 9)},
		// Without ties, and with all ties in common.
		{tiePair{nil, nil}, nil}, {tiePair{[]impl.Tie{}, tiesAt(3, 4)}, tiesAt(3, 4)}, {tiePair{tiesAt(3, 4), tiesAt(3, 4)}, tiesAt(3, 4)}, {tiePair{tiesAt(1, 2, 5, 9), tiesAt(1, 2, 5, 9)}, tiesAt(1, 2, 5, 9)}, {tiePair{tiesAt(1, 2, 5, 9), tiesAt(5, 9)}, tiesAt(1, 2, 5, 9)},
		// One list behind, between, around, and in turn with the other one.
		{tiePair{tiesAt(1, 2, 5, 9), tiesAt(6, 10, 9, 11)}, tiesAt(1, 2, 5, 9, 6, 10, 9, 11)}, {tiePair{tiesAt(1, 2, 5, 9), tiesAt(2, 3, 4, 8)}, tiesAt(1, 2, 2, 3, 4, 8, 5, 9)}, {tiePair{tiesAt(3, 5, 4, 6), tiesAt(0, 0, deepest, deepest)}, tiesAt(0, 0, 3, 5, 4, 6, deepest, deepest)},
		{tiePair{tiesAt(1, 2, 5, 9), tiesAt(3, 4, 7, 10)}, tiesAt(1, 2, 3, 4, 5, 9, 7, 10)}, {tiePair{tiesAt(1, 2, 5, 9, 9, 20), tiesAt(0, 1, 5, 9, 8, 10)}, tiesAt(0, 1, 1, 2, 5, 9, 8, 10, 9, 20)}, {tiePair{tiesAt(0, 0, 1, 1), tiesAt(deepest-1, deepest-1, deepest, deepest)}, tiesAt(0, 0, 1, 1, deepest-1, deepest-1, deepest, deepest)},
	} {
		wantFit(t, e.p, true)
		wantJoined(t, e.p, e.want, true)
		wantJoined(t, e.p.exchanged(), e.want, true)
		wantJoined(t, e.p.turned(), tiesTurned(e.want), true)
	}
	for _, p := range []tiePair{
		{tiesAt(1, 2, 5, 9), tiesAt(3, 1)}, {tiesAt(1, 2, 5, 9), tiesAt(3, 10)}, {tiesAt(1, 2, 5, 9), tiesAt(0, 3)}, {tiesAt(1, 2, 5, 9), tiesAt(6, 8)},
		// The same A and another B, or the same B and another A: alone, at both ends, and with the same ties beside.
		{tiesAt(5, 9), tiesAt(5, 10)}, {tiesAt(5, 9), tiesAt(6, 9)}, {tiesAt(5, 9), tiesAt(5, 0)}, {tiesAt(5, 9), tiesAt(0, 9)}, {tiesAt(0, 0), tiesAt(0, 1)}, {tiesAt(0, 0), tiesAt(1, 0)}, {tiesAt(deepest, deepest), tiesAt(deepest, deepest-1)}, {tiesAt(deepest, deepest), tiesAt(deepest-1, deepest)},
		{tiesAt(1, 2, 5, 9), tiesAt(1, 2, 5, 10)}, {tiesAt(1, 2, 5, 9), tiesAt(1, 2, 4, 9)}, {tiesAt(1, 2, 5, 9), tiesAt(1, 3, 5, 9)}, {tiesAt(1, 2, 5, 9), tiesAt(0, 2, 5, 9)}, {tiesAt(1, 2, 5, 9, 7, 11), tiesAt(1, 2, 5, 8, 7, 11)}, {tiesAt(1, 2, 5, 9, 7, 11), tiesAt(1, 2, 6, 9, 7, 11)}, {tiesAt(1, 2, 5, 9), tiesAt(2, 3, 5, 10, 6, 11)},
		// Ascending in A alone, with no depth in common.
		{tiesAt(1, 9), tiesAt(5, 2)}, {tiesAt(0, deepest), tiesAt(deepest, 0)}, {tiesAt(1, 10, 3, 30), tiesAt(2, 40, 4, 50)}, {tiesAt(1, 10, 3, 30), tiesAt(2, 5)}, {tiesAt(1, 10, 3, 30), tiesAt(4, 20)},
	} {
		wantNotFitting(t, p)
		wantNotFitting(t, p.turned())
	}
}

// TestTiesOfTwoListsOfEveryNumber has lists that fit, with common ties and without, up to as many together as may be joined, and more.
func TestTiesOfTwoListsOfEveryNumber(t *testing.T) {
	for a := range mostTies + 1 {
		for b := range mostTies + 1 {
			for common := range min(a, b) + 1 {
				// In turn one tie of each list as far as they go, ahead of the common ones.
				deal := []int{}
				for i := range max(a, b) - common {
					if i < a-common {
						deal = append(deal, 0)
					}
					if i < b-common {
						deal = append(deal, 1)
					}
				}
				deal = append(deal, equalRow(common, 2)...)
				all := tieLine(len(deal), tie(3, 0), 1200, 1250)
				p := dealt(all, deal)
				if len(p.a) != a || len(p.b) != b || p.common() != common {
					t.Fatalf("the lists are %s and %s", namedTies(p.a), namedTies(p.b))
				}
				if len(all) > mostTies {
					wantTooMany(t, p)
					wantTooMany(t, p.turned())
					continue
				}
				wantFit(t, p, true)
				wantJoined(t, p, all, true)
				wantJoined(t, p.exchanged(), all, true)
				wantJoined(t, p.turned(), tiesTurned(all), true)
			}
		}
	}
}

// TestOneTieMoreThanMayBeJoined has one list's ties in two lists, ahead of each other or in turn; with any one of them left out they are joined.
func TestOneTieMoreThanMayBeJoined(t *testing.T) {
	longer := tieLine(mostTies+1, tie(100, 200), 50, 60)
	for k := range longer {
		rest := slices.Delete(slices.Clone(longer), k, k+1)
		for n := 1; n <= mostTies; n++ {
			wantTooMany(t, tiePair{longer[:n], longer[n:]})
			wantJoined(t, tiePair{rest[:n], rest[n:]}, rest, true)
		}
		wantTooMany(t, tiePair{rest, longer[k : k+1]})
		wantTooMany(t, tiePair{rest, longer[max(0, k-3):min(len(longer), k+3)]})
		wantJoined(t, tiePair{rest, rest}, rest, true)
	}
	for _, deal := range [][]int{{0, 1}, {1, 0, 0}, {0, 2, 1}, {0, 0, 0, 1}} {
		wantTooMany(t, dealt(longer, deal))
		wantJoined(t, dealt(longer[1:], deal), longer[1:], true)
	}
}

// TestFitAndJoinAreExact compares with each two ties of both lists, and has pairs of all kinds that the chapter names.
func TestFitAndJoinAreExact(t *testing.T) {
	times := map[string]int{}
	count := func(kind string, is bool) {
		if is {
			times[kind]++
		}
	}
	for _, p := range tiePairs() {
		if !p.isFitting() {
			wantNotFitting(t, p)
			valid := isTies(p.a) && isTies(p.b)
			count("invalid lists", !valid)
			count("the same A and another B", valid && p.has(func(x impl.Tie, y impl.Tie) bool { return x.A == y.A && x.B != y.B }))
			count("the same B and another A", valid && p.has(func(x impl.Tie, y impl.Tie) bool { return x.A != y.A && x.B == y.B }))
			count("no depths in common", valid && !p.has(func(x impl.Tie, y impl.Tie) bool { return x.A == y.A || x.B == y.B }))
			continue
		}
		all := p.together()
		if len(all) > mostTies {
			wantTooMany(t, p)
			count("one tie too many", len(all) == mostTies+1)
			count("twice as many", len(all) == 2*mostTies)
			continue
		}
		wantFit(t, p, true)
		wantJoined(t, p, all, true)
		common, between := p.common(), p.between()
		count("as many as allowed", len(all) == mostTies)
		count("none in common", common == 0 && len(p.a) > 0 && len(p.b) > 0)
		count("some in common", common > 0 && common < min(len(p.a), len(p.b)))
		count("all in common", common > 0 && common == len(p.a) && common == len(p.b))
		count("all of one in the other", common > 0 && common == len(p.a) && common < len(p.b))
		count("partly between", between > 0 && between < len(p.a))
		count("wholly between", between > 0 && between == len(p.a) && common == 0)
	}
	for _, kind := range []string{
		"invalid lists", "the same A and another B", "the same B and another A", "no depths in common", "one tie too many", "twice as many", "as many as allowed",
		"none in common", "some in common", "all in common", "all of one in the other", "partly between", "wholly between",
	} {
		if times[kind] < 20 {
			t.Errorf("only %d pairs are of the kind: %s", times[kind], kind)
		}
	}
}

func TestTiesThroughExamples(t *testing.T) {
	for _, e := range []struct {
		p    tiePair
		want []impl.Tie
	}{
		{tiePair{tiesAt(1, 2, 5, 9), tiesAt(2, 8, 3, 10)}, tiesAt(1, 8)},
		{tiePair{nil, nil}, nil}, {tiePair{tiesAt(1, 2), nil}, nil}, {tiePair{nil, tiesAt(1, 2)}, nil}, {tiePair{tiesAt(1, 2), tiesAt(2, 7)}, tiesAt(1, 7)}, {tiePair{tiesAt(1, 2), tiesAt(1, 2)}, nil},
		// None: next to the depths of the second list, or in its depths B.
		{tiePair{tiesAt(1, 2, 5, 9), tiesAt(1, 0, 3, 7, 8, 9, 10, 11)}, nil}, {tiePair{tiesAt(1, 2, 5, 9), tiesAt(0, 2, 1, 9)}, nil}, {tiePair{tiesAt(1, 2, 5, 9), tiesAt(3, 1, 4, 5)}, nil},
		// Some: the first, the last, and those in the middle.
		{tiePair{tiesAt(1, 2, 5, 9), tiesAt(9, 0)}, tiesAt(5, 0)}, {tiePair{tiesAt(1, 2, 5, 9, 7, 10), tiesAt(2, 20, 10, 30)}, tiesAt(1, 20, 7, 30)}, {tiePair{tiesAt(1, 2, 5, 9, 7, 10), tiesAt(0, 1, 3, 3, 9, 15, 11, 16)}, tiesAt(5, 15)},
		// All, at both ends of the range, and with further ones in the second list.
		{tiePair{tiesAt(1, 2, 5, 9), tiesAt(2, 0, 9, deepest)}, tiesAt(1, 0, 5, deepest)}, {tiePair{tiesAt(0, 0, deepest, deepest), tiesAt(0, 0, deepest, deepest)}, tiesAt(0, 0, deepest, deepest)}, {tiePair{tiesAt(1, 0, 5, deepest), tiesAt(0, 3, 7, 4, 8, 5, deepest, 6)}, tiesAt(1, 3, 5, 6)},
		{tiePair{tieLine(mostTies, tie(0, 5), 1, 10), tieLine(mostTies, tie(5, 77), 10, 100)}, tieLine(mostTies, tie(0, 77), 1, 100)}, {tiePair{tieLine(mostTies, tie(0, 0), 1, 10), tieLine(mostTies, tie(0, 3), 20, 5)}, tieLine(mostTies/2, tie(0, 3), 2, 5)},
	} {
		wantThrough(t, e.p, e.want, true)
		wantThrough(t, e.p.turned().exchanged(), tiesTurned(e.want), true)
	}
}

// TestThroughIsExact compares with each tie of the first and each of the second list.
func TestThroughIsExact(t *testing.T) {
	none, some, all, invalid := 0, 0, 0, 0
	for _, p := range tiePairs() {
		if !isTies(p.a) || !isTies(p.b) {
			wantThrough(t, p, nil, false)
			invalid++
			continue
		}
		want := p.through()
		wantThrough(t, p, want, true)
		switch {
		case len(want) == 0:
			none++
		case len(want) < len(p.a):
			some++
		default:
			all++
		}
	}
	for _, times := range []int{none, some, all} {
		wantOften(t, times, 500)
	}
	wantOften(t, invalid, 100)
}

func TestTiesCurveExamples(t *testing.T) {
	for _, list := range [][]impl.Tie{nil, {}, tiesAt(0, 0), tiesAt(5, 9), tiesAt(deepest, deepest), {spoiledTie}, tiesAt(5, 9, 5, 10), tiesAt(5, 9, 6, 9), tieLine(mostTies+1, tie(0, 0), 1, 1)} {
		wantTiesCurve(t, list, nil, false)
	}
	for _, list := range [][]impl.Tie{tiesAt(1, 2, 5, 9), tiesAt(0, 0, deepest, deepest), tiesAt(0, 10, 4, 16, 6, 19, 10, 20), tieLine(3, tie(0, 0), 1, 1), tieLine(mostTies, tie(0, 7), 2, 3), tieLine(mostTies, tie(5, 0), 2700, 2727)} {
		c := knotsOf(list)
		wantTiesCurve(t, list, c, true)
		wantCurveValid(t, c, true)
		wantTiesCurve(t, tiesTurned(list), turned(t, c), true)
		for _, x := range placesOf(c) {
			want, ok := fracAt(exactAt(c, ratInt(x)))
			wantAt(t, c, x, want, ok)
		}
	}
	c, _ := impl.TiesCurve(tiesAt(0, 10, 4, 16, 6, 19, 10, 20))
	other, _ := impl.TiesCurve(tiesAt(10, 0, 20, 5))
	wantAt(t, c, 1, frac(23, 2), true)
	wantAt(t, c, 11, impl.Frac{}, false)
	wantTurn(t, other, curveOf(0, 10, 5, 20), true)
	wantThen(t, c, other, 1, frac(3, 4), true)
}

func TestP152FirstTiesAndOthersAreTies(t *testing.T) {
	forTies(func(list []impl.Tie) {
		wantTiesValid(t, list, true)
		for k := range len(list) + 1 {
			wantTiesValid(t, list[:k], true)
			wantTiesValid(t, list[k:], true)
		}
		if len(list) > 0 {
			wantTiesValid(t, append(slices.Clone(list), list[len(list)-1]), false)
		}
	})
}

func TestP153TiesOfAreAsManyAsPairs(t *testing.T) {
	forTiesOf(t, func(l eventLists, match []int, ties []impl.Tie) {
		wantTiesValid(t, ties, true)
		wantMatchMany(t, l, match, len(ties))
		wantTiesOf(t, l.exchanged(), turnedMatch(match, len(l.b)), turnOf(t, ties), true)
	})
}

func TestP154FitOfExchangedAndTurnedLists(t *testing.T) {
	forFits(t, func(p tiePair) {
		wantFit(t, p.exchanged(), true)
		wantFit(t, tiePair{turnOf(t, p.a), turnOf(t, p.b)}, true)
		wantFit(t, tiePair{p.a, p.a}, true)
		wantFit(t, tiePair{p.b, p.b}, true)
	})
}

func TestP155FitOfFirstTies(t *testing.T) {
	forFits(t, func(p tiePair) {
		for i := range len(p.a) + 1 {
			for k := range len(p.b) + 1 {
				wantFit(t, tiePair{p.a[:i], p.b[:k]}, true)
			}
		}
	})
}

func TestP156JoinHasAllTiesOfBoth(t *testing.T) {
	forJoined(t, func(p tiePair, all []impl.Tie) {
		wantTiesValid(t, all, true)
		wantJoined(t, p.exchanged(), all, true)
		for _, list := range [][]impl.Tie{p.a, p.b} {
			for _, x := range list {
				if !slices.Contains(all, x) {
					t.Fatalf("%s returned %s without %s", p.call("TiesJoin"), namedTies(all), namedTies([]impl.Tie{x}))
				}
			}
			wantJoined(t, tiePair{all, list}, all, true)
			wantJoined(t, tiePair{list, all}, all, true)
		}
	})
}

func TestP157JoinWithNoTiesAndNumberOfTies(t *testing.T) {
	forJoined(t, func(p tiePair, all []impl.Tie) {
		for _, list := range [][]impl.Tie{p.a, p.b} {
			for _, none := range [][]impl.Tie{nil, {}} {
				wantJoined(t, tiePair{list, none}, list, true)
				wantJoined(t, tiePair{none, list}, list, true)
			}
		}
		if len(all) > len(p.a)+len(p.b) || len(all) < max(len(p.a), len(p.b)) {
			t.Fatalf("%s returned %s", p.call("TiesJoin"), namedTies(all))
		}
	})
}

func TestP158TurnedTwice(t *testing.T) {
	forTies(func(list []impl.Tie) {
		ties := turnOf(t, list)
		wantTiesValid(t, ties, true)
		wantTiesTurn(t, ties, list, true)
		wantTiesTurn(t, list, tiesTurned(list), true)
	})
}

func TestP159ThroughTurnedAndExchanged(t *testing.T) {
	forThrough(t, func(p tiePair, ties []impl.Tie) {
		wantTiesValid(t, ties, true)
		wantThrough(t, tiePair{turnOf(t, p.b), turnOf(t, p.a)}, turnOf(t, ties), true)
	})
}

func TestP160ThroughAndBackLeadsToTheSameDepth(t *testing.T) {
	check := func(list []impl.Tie) {
		same := []impl.Tie{}
		for _, x := range list {
			same = append(same, tie(x.A, x.A))
		}
		wantThrough(t, tiePair{list, turnOf(t, list)}, same, true)
	}
	forTies(check)
	forThrough(t, func(p tiePair, _ []impl.Tie) { check(p.a) })
}

func TestP161ThroughAssociates(t *testing.T) {
	some := 0
	forThrough(t, func(p tiePair, ties []impl.Tie) {
		back := turnOf(t, p.a)
		want := throughOf(t, p.a, throughOf(t, p.b, back))
		wantThrough(t, tiePair{ties, back}, want, true)
		if len(want) > 0 {
			some++
		}
	})
	wantOften(t, some, 1000)
}

func TestP162CurveHasAKnotForEachTie(t *testing.T) {
	forCurvedTies(t, func(list []impl.Tie, c []impl.Knot) {
		wantCurveValid(t, c, true)
		wantTiesCurve(t, list, knotsOf(list), true)
		wantTiesCurve(t, turnOf(t, list), turned(t, c), true)
	})
}

func TestP163CurveAtTheTies(t *testing.T) {
	forCurvedTies(t, func(list []impl.Tie, c []impl.Knot) {
		for _, x := range list {
			wantAt(t, c, x.A, frac(x.B, 1), true)
		}
	})
}

func TestP164TiesOfWithOnePairGivenUp(t *testing.T) {
	times := 0
	forTiesOf(t, func(l eventLists, match []int, ties []impl.Tie) {
		for i, k := range match {
			if k == nobody {
				continue
			}
			times++
			less, ok := impl.TiesOf(l.a, l.b, l.tolerance, replaced(match, i, nobody))
			if !ok || len(less) != len(ties)-1 {
				t.Fatalf("%s returned %s, %t", l.call("TiesOf", replaced(match, i, nobody)), namedTies(less), ok)
			}
			wantFit(t, tiePair{ties, less}, true)
			wantFit(t, tiePair{less, ties}, true)
			wantJoined(t, tiePair{ties, less}, ties, true)
			wantJoined(t, tiePair{less, ties}, ties, true)
		}
	})
	wantOften(t, times, 10000)
}

func TestP165JoinOfFirstTiesAndOthers(t *testing.T) {
	forJoined(t, func(p tiePair, all []impl.Tie) {
		for k := range len(all) + 1 {
			wantJoined(t, tiePair{all[:k], all[k:]}, all, true)
		}
	})
}

func TestP166ThroughOfFirstTies(t *testing.T) {
	forThrough(t, func(p tiePair, ties []impl.Tie) {
		for k := range len(p.a) + 1 {
			first := throughOf(t, p.a[:k], p.b)
			if len(first) > len(ties) || !slices.Equal(first, ties[:len(first)]) {
				t.Fatalf("%s returned %s, and with %d first ties %s", p.call("TiesThrough"), namedTies(ties), k, namedTies(first))
			}
		}
		wantThrough(t, tiePair{p.a[:len(p.a)], p.b}, ties, true)
	})
}

func TestP167ThroughBothCurves(t *testing.T) {
	times := 0
	forThrough(t, func(p tiePair, ties []impl.Tie) {
		a, okA := impl.TiesCurve(p.a)
		b, okB := impl.TiesCurve(p.b)
		if !okA || !okB {
			return
		}
		for _, x := range ties {
			times++
			wantThen(t, a, b, x.A, frac(x.B, 1), true)
		}
	})
	wantOften(t, times, 5000)
}

func TestP168NoTiesFitAndLeadNowhere(t *testing.T) {
	forTies(func(list []impl.Tie) {
		for _, none := range [][]impl.Tie{nil, {}} {
			p := tiePair{list, none}
			wantFit(t, p, true)
			wantFit(t, p.exchanged(), true)
			wantThrough(t, p, nil, true)
			wantThrough(t, p.exchanged(), nil, true)
		}
	})
}

// tieMemory has calls of all functions with lists of ties, for which they succeed and fail.
func tieMemory(lists [][]impl.Tie) memoryCheck[impl.Tie] {
	calls := map[string]listCall[impl.Tie]{
		"TiesValid": func(list []impl.Tie) ([]impl.Tie, bool) { return nil, impl.TiesValid(list) },
		"TiesTurn":  impl.TiesTurn,
		"TiesCurve": func(list []impl.Tie) ([]impl.Tie, bool) {
			c, ok := impl.TiesCurve(list)
			return asTies(c), ok
		},
	}
	for _, other := range [][]impl.Tie{nil, tiesAt(2, 8, 3, 10), tieLine(mostTies, tie(0, 3), 1, 1), tiesAt(9, 5, 5, 9)} {
		ways := twoLists(other)
		ways["a list and it turned"] = func(list []impl.Tie) ([]impl.Tie, []impl.Tie) { return list, tiesTurned(list) }
		ways["a turned list and it"] = func(list []impl.Tie) ([]impl.Tie, []impl.Tie) { return tiesTurned(list), list }
		for name, both := range ways {
			name = " of " + name + " beside " + namedTies(other)
			calls["TiesFit"+name] = func(list []impl.Tie) ([]impl.Tie, bool) { return nil, impl.TiesFit(both(list)) }
			calls["TiesJoin"+name] = func(list []impl.Tie) ([]impl.Tie, bool) { return impl.TiesJoin(both(list)) }
			calls["TiesThrough"+name] = func(list []impl.Tie) ([]impl.Tie, bool) { return impl.TiesThrough(both(list)) }
		}
	}
	return memoryCheck[impl.Tie]{lists, calls, spoiledTie, namedTies}
}

// tiedEventMemory has calls of TiesOf with lists of events, whose results are told as events.
func tiedEventMemory(lists [][]impl.Event) memoryCheck[impl.Event] {
	calls := map[string]listCall[impl.Event]{}
	for _, tolerance := range []int{-1, 0, 7, biggest} {
		for name, both := range twoLists(sized(2, 1, 3, 500, 2)) {
			name = fmt.Sprintf("TiesOf of %s within %d", name, tolerance)
			of := func(list []impl.Event, match []int) ([]impl.Event, bool) {
				a, b := both(list)
				ties, ok := impl.TiesOf(a, b, tolerance, match)
				result := []impl.Event{}
				for _, x := range ties {
					result = append(result, event(x.A, x.B))
				}
				return result, ok
			}
			calls[name+" and the best matching"] = func(list []impl.Event) ([]impl.Event, bool) {
				a, b := both(list)
				best, _ := impl.MatchBest(a, b, tolerance)
				return of(list, best)
			}
			calls[name+" and the first partners"] = func(list []impl.Event) ([]impl.Event, bool) { return of(list, steps(len(list), 0, 1)) }
		}
	}
	return memoryCheck[impl.Event]{lists, calls, spoiledEvent, namedEvents}
}

// tiedMatchMemory has calls of TiesOf with third lists, whose results are told as numbers.
func tiedMatchMemory(lists [][]int) memoryCheck[int] {
	calls := map[string]listCall[int]{}
	for number := range mostEvents + 1 {
		a, b := alikeEvents(number, 5), alikeEvents(mostEvents, 5)
		calls[fmt.Sprintf("TiesOf of %d events", number)] = func(list []int) ([]int, bool) {
			ties, ok := impl.TiesOf(a, b, 0, list)
			result := []int{}
			for _, x := range ties {
				result = append(result, x.A, x.B)
			}
			return result, ok
		}
	}
	return memoryCheck[int]{lists, calls, spoiledNumber, namedInts}
}

func TestTieFunctionsWriteNothing(t *testing.T) {
	tieMemory(slices.Concat(sampleTies(), noTies())).wantNothingWritten(t)
	tiedEventMemory(slices.Concat(sampleEvents(), noEvents())).wantNothingWritten(t)
	tiedMatchMemory(matchLists()).wantNothingWritten(t)
}

func TestTieFunctionsShareNothing(t *testing.T) {
	tieMemory(slices.Concat(thinned(sampleTies(), 100), longTies(), thinned(noTies(), 30))).wantNothingShared(t)
	tiedEventMemory(slices.Concat(thinned(sampleEvents(), 100), thinned(noEvents(), 30))).wantNothingShared(t)
	tiedMatchMemory(matchLists()).wantNothingShared(t)
}

func TestTieFunctionsReadNothingBehindAList(t *testing.T) {
	tieMemory(slices.Concat(sampleTies(), thinned(noTies(), 100))).wantNothingReadBehind(t)
	tiedEventMemory(slices.Concat(thinned(sampleEvents(), 100), thinned(noEvents(), 60))).wantNothingReadBehind(t)
	tiedMatchMemory(matchLists()).wantNothingReadBehind(t)
}

// TestTiesOfAndTiesCurveResultsShareNothing looks at results that have another type than the arguments.
func TestTiesOfAndTiesCurveResultsShareNothing(t *testing.T) {
	forTiesOf(t, func(l eventLists, match []int, _ []impl.Tie) {
		of := func() []impl.Tie {
			ties, _ := impl.TiesOf(l.a, l.b, l.tolerance, match)
			return ties
		}
		wantApart(t, l.call("TiesOf", match)+" and of TiesTurn", spoiledTie, of, func() []impl.Tie {
			ties, _ := impl.TiesTurn(of())
			return ties
		})
	})
	forCurvedTies(t, func(list []impl.Tie, _ []impl.Knot) {
		wantApart(t, withTies("TiesCurve", list), spoiledKnot, func() []impl.Knot {
			c, _ := impl.TiesCurve(list)
			return c
		})
	})
}
