package tests

import (
	"fmt"
	"math"
	"math/rand/v2"
	"slices"
	"testing"

	"loop.example/icecores/impl"
)

const (
	mostPlaces = 16
	dearest    = 1000
)

// spoiledCost is neither a cost nor a cut; the tests write it over memory that no function may use.
const spoiledCost = -7

// distances is the range of the distances of cuts, valid or not.
type distances struct {
	least int
	most  int
}

// anyDistances allow all lists of cuts that end at the last place.
var anyDistances = distances{1, mostPlaces}

// allDistances returns all valid ranges of distances.
func allDistances() []distances {
	list := []distances{}
	for least := 1; least <= mostPlaces; least++ {
		for most := least; most <= mostPlaces; most++ {
			list = append(list, distances{least, most})
		}
	}
	return list
}

// isDistances tells whether a range of distances is one of the valid ones.
func isDistances(d distances) bool {
	return slices.Contains(allDistances(), d)
}

// badDistances break each condition of distances alone and with others: next to both ends of their range, at those of int, and exchanged.
func badDistances() []distances {
	numbers := []int{0, -1, -2, -mostPlaces, math.MinInt + 1, math.MinInt, 1, 2, 5, mostPlaces - 1, mostPlaces, mostPlaces + 1, mostPlaces + 2, 2 * mostPlaces, 1 << 32, 1<<32 + 1, -1<<32 + 1, math.MaxInt - 1, math.MaxInt}
	list := []distances{}
	for _, least := range numbers {
		for _, most := range numbers {
			if d := (distances{least, most}); !isDistances(d) {
				list = append(list, d)
			}
		}
	}
	for _, d := range allDistances() {
		if d.least < d.most {
			list = append(list, distances{d.most, d.least})
		}
	}
	return list
}

// placesOutsideSignals are no numbers of places of a signal.
func placesOutsideSignals() []int {
	return []int{0, -1, -2, -mostPlaces, -1 << 32, math.MinInt + 1, math.MinInt, mostPlaces + 1, mostPlaces + 2, 2 * mostPlaces, 1 << 32, 1<<32 + 1, math.MaxInt - 1, math.MaxInt}
}

// costsOutside are no costs: next to both ends of their range, and at those of int.
func costsOutside() []int {
	return []int{-1, -2, spoiledCost, -dearest, -1 << 32, -1<<32 + 5, math.MinInt + 1, math.MinInt, dearest + 1, dearest + 2, 2 * dearest, 1 << 16, 1 << 32, 1<<32 + 5, math.MaxInt - 1, math.MaxInt}
}

// mixedCosts returns a number of costs that all differ.
func mixedCosts(number int) []int {
	list := []int{}
	for i := range number {
		list = append(list, (i*i*157+i*109+13)%(dearest+1))
	}
	return list
}

// longSignals have as many places as are allowed or one less, with costs that are equal, rising, falling, up and down, with one greater or one lesser, or mixed.
func longSignals() [][]int {
	list := [][]int{}
	for _, number := range []int{mostPlaces, mostPlaces - 1} {
		for _, cost := range []int{0, 1, 7, dearest} {
			list = append(list, equalRow(number, cost))
		}
		upAndDown := slices.Repeat([]int{0, dearest}, mostPlaces)
		threes := slices.Repeat([]int{2, 1, 3}, mostPlaces)
		list = append(list, steps(number, 0, 1), steps(number, dearest, -60), upAndDown[:number], upAndDown[1:number+1], threes[:number], threes[2:number+2], mixedCosts(number))
		for i := range number {
			list = append(list, peakRow(number, i, dearest), plus(equalRow(number, 2), peakRow(number, i, -1)))
		}
	}
	return list
}

// mixedSignals are the same ones in each run, of all numbers of places, with few and with many different costs.
func mixedSignals(number int) [][]int {
	r := rand.New(rand.NewPCG(15, 135))
	list := [][]int{}
	for i := range number {
		most := []int{1, 2, 9, dearest}[i/mostPlaces%4]
		costs := []int{}
		for range 1 + i%mostPlaces {
			costs = append(costs, r.IntN(most+1))
		}
		list = append(list, costs)
	}
	return list
}

// sampleSignals returns all signals of a few places with costs of a few choices, and long and mixed ones.
func sampleSignals() [][]int {
	list := [][]int{}
	for number := 1; number <= 3; number++ {
		list = append(list, listsOf(number, 0, 1, 2, dearest)...)
	}
	return slices.Concat(list, listsOf(4, 0, 1, dearest), listsOf(5, 0, 1, 3), listsOf(6, 0, 1), longSignals(), mixedSignals(8*mostPlaces))
}

// noSignals break each condition of a signal, at each of its places.
func noSignals() [][]int {
	list := [][]int{
		nil, {}, {math.MinInt, math.MaxInt}, {math.MaxInt, math.MinInt}, {math.MinInt, math.MinInt}, {math.MaxInt, math.MaxInt}, {dearest + 1, -1}, {-1, -1}, {dearest + 1, dearest + 1},
		equalRow(mostPlaces+1, 0), equalRow(mostPlaces+1, dearest), equalRow(mostPlaces+1, -1), mixedCosts(mostPlaces + 1), equalRow(mostPlaces+2, 1), equalRow(2*mostPlaces, 1), equalRow(2*mostPlaces+1, 1), equalRow(1000, 0),
	}
	for _, costs := range [][]int{{5}, {0, dearest}, {0, 0, 0}, {1, 5, 0, 2}, equalRow(mostPlaces-1, 1), mixedCosts(mostPlaces)} {
		list = append(list, spoiledAt(costs, costsOutside())...)
	}
	return list
}

// isSignal tells by each cost whether a list is a signal.
func isSignal(list []int) bool {
	return len(list) <= mostPlaces && allWithin(list, 0, dearest)
}

// isCuts tells by each condition whether a list are allowed cuts of a signal with a number of places.
func isCuts(places int, d distances, cuts []int) bool {
	if len(cuts) == 0 || cuts[0] < d.least-1 || cuts[0] > d.most-1 {
		return false
	}
	for _, cut := range cuts {
		if cut < 0 || cut >= places {
			return false
		}
	}
	for i, cut := range cuts[1:] {
		if cut-cuts[i] < d.least || cut-cuts[i] > d.most {
			return false
		}
	}
	return cuts[len(cuts)-1] == places-1
}

// listsToLast returns all ascending lists of places that end at the last one.
func listsToLast(places int) [][]int {
	list := [][]int{}
	for _, inner := range ascendingDepths(0, places-2) {
		list = append(list, slices.Concat(inner, []int{places - 1}))
	}
	return list
}

// forAllowed calls a check with each number of places, all distances, and all lists of allowed cuts, one by one from all ascending lists.
func forAllowed(check func(places int, d distances, allowed [][]int)) {
	for places := 1; places <= mostPlaces; places++ {
		lists := listsToLast(places)
		for _, d := range allDistances() {
			check(places, d, slices.DeleteFunc(slices.Clone(lists), func(cuts []int) bool { return !isCuts(places, d, cuts) }))
		}
	}
}

// signalsByPlaces returns the sample signals by their numbers of places.
func signalsByPlaces() map[int][][]int {
	lists := map[int][][]int{}
	for _, costs := range sampleSignals() {
		lists[len(costs)] = append(lists[len(costs)], costs)
	}
	return lists
}

// comesFirst tells whether the first number of a list that differs from the other one is the lesser one.
func comesFirst(a []int, b []int) bool {
	for i := range min(len(a), len(b)) {
		if a[i] != b[i] {
			return a[i] < b[i]
		}
	}
	return false
}

// costAt adds up the costs of all places that are ascending cuts.
func costAt(costs []int, cuts []int) int {
	sum, next := 0, 0
	for place, cost := range costs {
		if next < len(cuts) && cuts[next] == place {
			sum += cost
			next++
		}
	}
	return sum
}

// cheapestOf returns those of lists of cuts that have the least cost.
func cheapestOf(costs []int, lists [][]int) [][]int {
	cheapest, least := [][]int{}, math.MaxInt
	for _, cuts := range lists {
		cost := costAt(costs, cuts)
		if cost < least {
			cheapest, least = [][]int{}, cost
		}
		if cost == least {
			cheapest = append(cheapest, cuts)
		}
	}
	return cheapest
}

// firstOf returns the list ahead of which no other one comes, or nil if there is none.
func firstOf(lists [][]int) []int {
	var first []int
	for _, cuts := range lists {
		if first == nil || comesFirst(cuts, first) {
			first = cuts
		}
	}
	return first
}

// onSignal returns the text of a call with a signal, distances and further lists.
func onSignal(name string, costs []int, d distances, lists ...[]int) string {
	s := fmt.Sprintf("%s(%s, %d, %d", name, namedInts(costs), d.least, d.most)
	for _, list := range lists {
		s += ", " + namedInts(list)
	}
	return s + ")"
}

// onPlaces returns the text of a call with a number of places and distances.
func onPlaces(name string, places int, d distances) string {
	return fmt.Sprintf("%s(%d, %d, %d)", name, places, d.least, d.most)
}

func wantAllowed(t *testing.T, costs []int, d distances, cuts []int, want bool) {
	t.Helper()
	if got := impl.CutsAllowed(costs, d.least, d.most, cuts); got != want {
		t.Fatalf("%s returned %t", onSignal("CutsAllowed", costs, d, cuts), got)
	}
}

func wantCost(t *testing.T, costs []int, d distances, cuts []int, want int) {
	t.Helper()
	if got := impl.CutsCost(costs, d.least, d.most, cuts); got != want {
		t.Fatalf("%s returned %d, not %d", onSignal("CutsCost", costs, d, cuts), got, want)
	}
}

// wantNotAllowed checks that a list are no allowed cuts.
func wantNotAllowed(t *testing.T, costs []int, d distances, cuts []int) {
	t.Helper()
	wantAllowed(t, costs, d, cuts, false)
	wantCost(t, costs, d, cuts, -1)
}

func wantBest(t *testing.T, costs []int, d distances, want []int, wantOk bool) {
	t.Helper()
	got, ok := impl.CutsBest(costs, d.least, d.most)
	if !slices.Equal(got, want) || ok != wantOk {
		t.Fatalf("%s returned %v, %t, not %v, %t", onSignal("CutsBest", costs, d), got, ok, want, wantOk)
	}
}

func wantCutsMany(t *testing.T, places int, d distances, want int) {
	t.Helper()
	if got := impl.CutsMany(places, d.least, d.most); got != want {
		t.Fatalf("%s returned %d, not %d", onPlaces("CutsMany", places, d), got, want)
	}
}

func wantCutsYears(t *testing.T, places int, d distances, wantLeast int, wantGreatest int, wantOk bool) {
	t.Helper()
	least, greatest, ok := impl.CutsYears(places, d.least, d.most)
	if least != wantLeast || greatest != wantGreatest || ok != wantOk {
		t.Fatalf("%s returned %d, %d, %t, not %d, %d, %t", onPlaces("CutsYears", places, d), least, greatest, ok, wantLeast, wantGreatest, wantOk)
	}
}

// wantNoSignalOf checks that every function tells that a signal or distances are invalid, whatever the cuts.
func wantNoSignalOf(t *testing.T, costs []int, d distances) {
	t.Helper()
	wantBest(t, costs, d, nil, false)
	for _, cuts := range [][]int{nil, {}, {0}, {-1}, {1, 3}, {len(costs) - 1}, {len(costs)}, steps(len(costs), 0, 1), {spoiledCost}, costs} {
		wantNotAllowed(t, costs, d, cuts)
	}
}

// wantNoPlaces checks that neither cuts nor years are counted if the number of places or the distances are invalid.
func wantNoPlaces(t *testing.T, places int, d distances) {
	t.Helper()
	wantCutsMany(t, places, d, -1)
	wantCutsYears(t, places, d, 0, 0, false)
}

// costOf returns CutsCost of cuts, which must be allowed.
func costOf(t *testing.T, costs []int, d distances, cuts []int) int {
	t.Helper()
	cost := impl.CutsCost(costs, d.least, d.most, cuts)
	if cost < 0 {
		t.Fatalf("%s returned %d", onSignal("CutsCost", costs, d, cuts), cost)
	}
	return cost
}

// bestOf returns the best cuts, which there must be, and their cost.
func bestOf(t *testing.T, costs []int, d distances) ([]int, int) {
	t.Helper()
	best, ok := impl.CutsBest(costs, d.least, d.most)
	if !ok {
		t.Fatalf("%s failed", onSignal("CutsBest", costs, d))
	}
	return best, costOf(t, costs, d, best)
}

// forSignals calls a check with each of the sample signals and all distances.
func forSignals(check func(costs []int, d distances)) {
	for _, costs := range sampleSignals() {
		for _, d := range allDistances() {
			check(costs, d)
		}
	}
}

// forBest calls a check with each sample signal and distances for which CutsBest succeeds, and its result.
func forBest(t *testing.T, check func(costs []int, d distances, best []int)) {
	t.Helper()
	times := 0
	forSignals(func(costs []int, d distances) {
		if best, ok := impl.CutsBest(costs, d.least, d.most); ok {
			times++
			check(costs, d, best)
		}
	})
	wantOften(t, times, 25000)
}

// forCutLists calls a check with each sample signal, all distances, and allowed cuts: all of a few places, and some of many.
func forCutLists(t *testing.T, check func(costs []int, d distances, cuts []int)) {
	t.Helper()
	signals := signalsByPlaces()
	times := 0
	forAllowed(func(places int, d distances, allowed [][]int) {
		for _, cuts := range thinned(allowed, 16) {
			for _, costs := range signals[places] {
				if !impl.CutsAllowed(costs, d.least, d.most, cuts) {
					t.Fatalf("%s returned false", onSignal("CutsAllowed", costs, d, cuts))
				}
				times++
				check(costs, d, cuts)
			}
		}
	})
	wantOften(t, times, 150000)
}

// forPlacesAndDistances calls a check with each number of places of a signal and all distances.
func forPlacesAndDistances(check func(places int, d distances)) {
	for places := 1; places <= mostPlaces; places++ {
		for _, d := range allDistances() {
			check(places, d)
		}
	}
}

// forCutsYears calls a check with each number of places and distances for which CutsYears succeeds, and its results.
func forCutsYears(t *testing.T, check func(places int, d distances, least int, greatest int)) {
	t.Helper()
	times := 0
	forPlacesAndDistances(func(places int, d distances) {
		if least, greatest, ok := impl.CutsYears(places, d.least, d.most); ok {
			times++
			check(places, d, least, greatest)
		}
	})
	wantOften(t, times, 800)
}

func TestSignalMaxAndCostMax(t *testing.T) {
	if impl.SignalMax != mostPlaces || impl.CostMax != dearest {
		t.Errorf("SignalMax is %d, CostMax is %d", impl.SignalMax, impl.CostMax)
	}
}

func TestCutsAllowedExamples(t *testing.T) {
	costs := []int{5, 1, 9, 2, 3, 4}
	for _, e := range []struct {
		d    distances
		cuts []int
		cost int
	}{
		{distances{2, 3}, []int{1, 3, 5}, 7}, {distances{2, 3}, []int{2, 5}, 13}, {distances{1, 1}, steps(6, 0, 1), 24}, {distances{6, 6}, []int{5}, 4}, {distances{6, mostPlaces}, []int{5}, 4}, {distances{mostPlaces, mostPlaces}, nil, -1},
		{anyDistances, []int{5}, 4}, {anyDistances, steps(6, 0, 1), 24}, {anyDistances, []int{0, 5}, 9}, {anyDistances, []int{4, 5}, 7}, {distances{1, 2}, []int{1, 2, 4, 5}, 17}, {distances{3, 3}, []int{2, 5}, 13}, {distances{2, 4}, []int{3, 5}, 6}, {distances{2, 4}, []int{1, 5}, 5},
		// No list, and lists that descend or have equal places.
		{anyDistances, nil, -1}, {anyDistances, []int{}, -1}, {anyDistances, []int{3, 1, 5}, -1}, {anyDistances, []int{5, 4}, -1}, {anyDistances, []int{1, 3, 2, 5}, -1}, {anyDistances, []int{3, 3, 5}, -1}, {anyDistances, []int{5, 5}, -1}, {anyDistances, []int{0, 0, 5}, -1},
		// A first cut that is too early or too late by 1.
		{distances{2, 3}, []int{0, 2, 5}, -1}, {distances{2, 3}, []int{3, 5}, -1}, {distances{3, 6}, []int{1, 5}, -1}, {distances{1, 5}, []int{5}, -1}, {distances{2, 2}, []int{0, 2, 4}, -1},
		// A distance that is too short or too long by 1, in the middle and at the end.
		{distances{2, 3}, []int{1, 2, 5}, -1}, {distances{2, 3}, []int{1, 5}, -1}, {distances{2, 4}, []int{2, 4, 5}, -1}, {distances{1, 2}, []int{0, 3, 5}, -1}, {distances{1, 2}, []int{0, 2, 5}, -1}, {distances{3, 3}, []int{2, 4}, -1},
		// A last cut that is not at the last place.
		{distances{2, 3}, []int{1, 3}, -1}, {distances{2, 3}, []int{2, 4}, -1}, {distances{1, 1}, steps(5, 0, 1), -1}, {anyDistances, []int{0}, -1}, {anyDistances, []int{4}, -1},
		// Places below 0 or beyond the signal.
		{anyDistances, []int{-1}, -1}, {anyDistances, []int{-1, 5}, -1}, {anyDistances, []int{-1, 0, 5}, -1}, {anyDistances, []int{6}, -1}, {anyDistances, []int{5, 6}, -1}, {distances{1, 1}, steps(7, 0, 1), -1}, {distances{1, 1}, steps(7, -1, 1), -1}, {distances{2, 3}, []int{1, 3, 5, 7}, -1},
		{anyDistances, []int{math.MinInt}, -1}, {anyDistances, []int{math.MaxInt}, -1}, {anyDistances, []int{math.MinInt, 5}, -1}, {anyDistances, []int{5, math.MaxInt}, -1}, {anyDistances, []int{math.MaxInt, 5}, -1}, {anyDistances, []int{math.MaxInt, math.MinInt, 5}, -1}, {anyDistances, []int{1<<32 + 5}, -1}, {anyDistances, []int{-1<<32 + 5}, -1},
	} {
		wantAllowed(t, costs, e.d, e.cuts, e.cost >= 0)
		wantCost(t, costs, e.d, e.cuts, e.cost)
	}
}

// TestCutsAllowedOfEveryShortList checks every list of up to four numbers at, next to and between the places of a few signals.
func TestCutsAllowedOfEveryShortList(t *testing.T) {
	allowed := 0
	for places := 1; places <= 4; places++ {
		costs := mixedCosts(places)
		for number := range 5 {
			for _, cuts := range listsOf(number, steps(places+3, -1, 1)...) {
				for _, d := range []distances{{1, 1}, {1, 2}, {1, 3}, {2, 2}, {2, 3}, {3, 3}, {4, 4}, {1, mostPlaces}, {2, mostPlaces}, {mostPlaces, mostPlaces}} {
					if !isCuts(places, d, cuts) {
						wantNotAllowed(t, costs, d, cuts)
						continue
					}
					allowed++
					wantCost(t, costs, d, cuts, costAt(costs, cuts))
				}
			}
		}
	}
	wantNumber(t, "the number of allowed cuts", allowed, 55)
}

// TestCutsAllowedOfSpoiledLists changes one cut, leaves one out, repeats one, or exchanges two.
func TestCutsAllowedOfSpoiledLists(t *testing.T) {
	allowed, spoiled := 0, 0
	check := func(costs []int, d distances, cuts []int) {
		if isCuts(len(costs), d, cuts) {
			allowed++
			wantCost(t, costs, d, cuts, costAt(costs, cuts))
			return
		}
		spoiled++
		wantNotAllowed(t, costs, d, cuts)
	}
	forAllowed(func(places int, d distances, lists [][]int) {
		costs := mixedCosts(places)
		for _, cuts := range thinned(lists, 40) {
			check(costs, d, cuts)
			check(costs, d, inOppositeOrder(cuts))
			for i, cut := range cuts {
				for _, other := range []int{cut - 1, cut + 1, cut - d.least, cut + d.most, cut + places, -cut, math.MinInt, math.MaxInt, math.MaxInt - d.most, math.MinInt + d.least} {
					check(costs, d, replaced(cuts, i, other))
				}
				check(costs, d, slices.Delete(slices.Clone(cuts), i, i+1))
				check(costs, d, slices.Insert(slices.Clone(cuts), i, cut))
				if i > 0 {
					check(costs, d, replaced(replaced(cuts, i, cuts[i-1]), i-1, cut))
				}
			}
		}
	})
	wantOften(t, allowed, 20000)
	wantOften(t, spoiled, 200000)
}

func TestCutsCostExamples(t *testing.T) {
	all := steps(mostPlaces, 0, 1)
	wantCost(t, equalRow(mostPlaces, dearest), distances{1, 1}, all, mostPlaces*dearest)
	wantCost(t, equalRow(mostPlaces, 0), distances{1, 1}, all, 0)
	wantCost(t, equalRow(mostPlaces, 1), anyDistances, all, mostPlaces)
	wantCost(t, []int{0}, distances{1, 1}, []int{0}, 0)
	wantCost(t, []int{dearest}, distances{1, 1}, []int{0}, dearest)
	for i := range mostPlaces - 1 {
		costs := peakRow(mostPlaces, i, dearest)
		wantCost(t, costs, anyDistances, all, dearest)
		wantCost(t, costs, anyDistances, []int{i, mostPlaces - 1}, dearest)
		wantCost(t, costs, anyDistances, []int{mostPlaces - 1}, 0)
		wantCost(t, steps(mostPlaces, 1, 1), anyDistances, []int{i, mostPlaces - 1}, i+1+mostPlaces)
	}
}

func TestNoSignals(t *testing.T) {
	some := slices.Concat([]distances{{1, 1}, anyDistances, {mostPlaces, mostPlaces}}, thinned(allDistances(), 20), thinned(badDistances(), 40))
	for _, costs := range noSignals() {
		for _, d := range some {
			wantNoSignalOf(t, costs, d)
		}
	}
}

func TestNoDistances(t *testing.T) {
	for _, d := range badDistances() {
		for _, costs := range slices.Concat([][]int{{0}, {dearest}, {0, 0}, {5, 1, 9, 2, 3, 4}}, longSignals(), mixedSignals(mostPlaces)) {
			wantNoSignalOf(t, costs, d)
		}
		for places := 1; places <= mostPlaces; places++ {
			wantNoPlaces(t, places, d)
		}
	}
}

func TestNoPlaces(t *testing.T) {
	for _, places := range placesOutsideSignals() {
		for _, d := range slices.Concat(allDistances(), badDistances()) {
			wantNoPlaces(t, places, d)
		}
	}
}

// TestEveryShortSignal checks every list of up to three costs at and next to both ends of their range.
func TestEveryShortSignal(t *testing.T) {
	valid := 0
	for number := range 4 {
		for _, costs := range listsOf(number, -1, 0, 1, dearest, dearest+1) {
			if !isSignal(costs) {
				wantNoSignalOf(t, costs, anyDistances)
				continue
			}
			valid++
			wantCost(t, costs, anyDistances, []int{number - 1}, costs[number-1])
			wantCost(t, costs, distances{1, 1}, steps(number, 0, 1), sumOfAmounts(costs))
			wantBest(t, costs, distances{1, 1}, steps(number, 0, 1), true)
		}
	}
	wantNumber(t, "the number of signals", valid, 3+9+27)
}

func TestSignalsOfEveryNumberOfPlaces(t *testing.T) {
	for places := range 2*mostPlaces + 5 {
		for _, cost := range []int{0, 1, dearest} {
			costs := equalRow(places, cost)
			if places < 1 || places > mostPlaces {
				wantNoSignalOf(t, costs, anyDistances)
				wantNoPlaces(t, places, anyDistances)
				continue
			}
			wantBest(t, costs, distances{1, 1}, steps(places, 0, 1), true)
			wantCost(t, costs, distances{1, 1}, steps(places, 0, 1), places*cost)
			wantBest(t, costs, distances{places, places}, []int{places - 1}, true)
			wantCutsMany(t, places, distances{1, 1}, 1)
		}
	}
}

func TestCutsManyExamples(t *testing.T) {
	for _, e := range []struct {
		places, least, most, want int
	}{
		{6, 2, 3, 2}, {1, 2, 3, 0}, {1, 1, 1, 1}, {1, 1, mostPlaces, 1}, {2, 1, 1, 1}, {2, 1, 2, 2}, {2, 2, 2, 1}, {2, 3, mostPlaces, 0}, {5, 2, 3, 2}, {7, 2, 3, 3}, {5, 3, 4, 0}, {11, 4, 5, 0}, {12, 4, 5, 1}, {13, 4, 5, 3},
		{mostPlaces, 1, mostPlaces, 32768}, {mostPlaces, 1, mostPlaces - 1, 32767}, {mostPlaces - 1, 1, mostPlaces, 16384}, {mostPlaces, 1, 2, 1597}, {mostPlaces, 2, mostPlaces, 610}, {mostPlaces, 1, 1, 1}, {mostPlaces, mostPlaces, mostPlaces, 1},
		{mostPlaces, mostPlaces - 1, mostPlaces, 1}, {mostPlaces, 9, 15, 0}, {mostPlaces, 8, 15, 1}, {mostPlaces, 8, mostPlaces, 2}, {mostPlaces, 4, 4, 1}, {mostPlaces, 5, 5, 0}, {mostPlaces - 1, mostPlaces, mostPlaces, 0},
	} {
		wantCutsMany(t, e.places, distances{e.least, e.most}, e.want)
	}
}

// TestCutsManyIsExact has distances that allow no cuts, exactly one list, and all lists.
func TestCutsManyIsExact(t *testing.T) {
	none, one, all := 0, 0, 0
	forAllowed(func(places int, d distances, allowed [][]int) {
		wantCutsMany(t, places, d, len(allowed))
		switch len(allowed) {
		case 0:
			none++
		case 1:
			one++
		case 1 << (places - 1):
			all++
		}
	})
	wantOften(t, none, 500)
	wantOften(t, one, 200)
	wantOften(t, all, 50)
}

func TestCutsYearsExamples(t *testing.T) {
	for _, e := range []struct {
		places, least, most, wantLeast, wantGreatest int
		ok                                           bool
	}{
		{6, 2, 3, 2, 3, true}, {1, 1, 1, 1, 1, true}, {1, 1, mostPlaces, 1, 1, true}, {mostPlaces, 1, mostPlaces, 1, mostPlaces, true}, {mostPlaces, mostPlaces, mostPlaces, 1, 1, true}, {mostPlaces, 1, 1, mostPlaces, mostPlaces, true}, {mostPlaces, 1, 15, 2, mostPlaces, true},
		{7, 2, 3, 3, 3, true}, {12, 4, 5, 3, 3, true}, {16, 2, 3, 6, 8, true}, {16, 5, 6, 3, 3, true}, {10, 2, 3, 4, 5, true}, {16, 2, mostPlaces, 1, 8, true}, {15, 4, 7, 3, 3, true}, {16, 3, 4, 4, 5, true},
		{1, 2, 3, 0, 0, false}, {5, 3, 4, 0, 0, false}, {11, 4, 5, 0, 0, false}, {16, 9, 15, 0, 0, false}, {15, mostPlaces, mostPlaces, 0, 0, false}, {16, 5, 5, 0, 0, false}, {16, 6, 7, 0, 0, false},
	} {
		wantCutsYears(t, e.places, distances{e.least, e.most}, e.wantLeast, e.wantGreatest, e.ok)
	}
}

// TestCutsYearsIsExact has no cuts, one number of cuts, and more than one.
func TestCutsYearsIsExact(t *testing.T) {
	none, one, several := 0, 0, 0
	forAllowed(func(places int, d distances, allowed [][]int) {
		if len(allowed) == 0 {
			none++
			wantCutsYears(t, places, d, 0, 0, false)
			return
		}
		byNumber := func(a []int, b []int) int { return len(a) - len(b) }
		least, greatest := len(slices.MinFunc(allowed, byNumber)), len(slices.MaxFunc(allowed, byNumber))
		wantCutsYears(t, places, d, least, greatest, true)
		if least == greatest {
			one++
		} else {
			several++
		}
	})
	wantOften(t, none, 500)
	wantOften(t, one, 200)
	wantOften(t, several, 200)
}

func TestCutsBestExamples(t *testing.T) {
	for _, e := range []struct {
		costs []int
		d     distances
		want  []int
	}{
		{[]int{5, 1, 9, 2, 3, 4}, distances{2, 3}, []int{1, 3, 5}},
		{[]int{5, 1, 0, 2, 3, 4}, distances{2, 3}, []int{2, 5}},
		{[]int{5, 1, 9, 2, 3, 4}, distances{1, 1}, []int{0, 1, 2, 3, 4, 5}},
		{[]int{5, 1, 9, 2, 3, 4}, distances{6, 6}, []int{5}},
		{[]int{5, 1, 9, 2, 3, 4}, distances{1, 5}, []int{1, 5}},
		{[]int{5, 1, 9, 2, 3, 4}, distances{1, 3}, []int{1, 3, 5}},
		{[]int{5, 1, 9, 2, 3, 4}, distances{3, 5}, []int{2, 5}},
		{[]int{dearest, 0, dearest}, distances{1, 2}, []int{1, 2}},
		{[]int{dearest, dearest, 0}, distances{1, 2}, []int{0, 2}},
		{[]int{dearest}, distances{1, 1}, []int{0}}, {[]int{0}, anyDistances, []int{0}},
		// The latest first cut is the best one, and only just early enough.
		{[]int{1, 1, 7, 0, 7, 7, 0}, distances{1, 4}, []int{3, 6}},
		{equalRow(mostPlaces, 1), anyDistances, []int{15}},
		{equalRow(mostPlaces, dearest), distances{3, 5}, []int{2, 5, 10, 15}},
		{steps(mostPlaces, 0, 1), distances{1, 8}, []int{0, 7, 15}},
		{steps(mostPlaces, 1, 1), distances{1, 8}, []int{7, 15}},
		{steps(mostPlaces, 0, 1), distances{1, 5}, []int{0, 5, 10, 15}},
		{steps(mostPlaces, dearest, -60), distances{7, 9}, []int{8, 15}},
	} {
		wantBest(t, e.costs, e.d, e.want, true)
	}
	for _, d := range []distances{{2, 2}, {2, mostPlaces}, {mostPlaces, mostPlaces}} {
		wantBest(t, []int{5}, d, nil, false)
	}
	wantBest(t, []int{5, 1, 9, 2, 3}, distances{3, 4}, nil, false)
	wantBest(t, equalRow(mostPlaces, 0), distances{9, 15}, nil, false)
	wantBest(t, equalRow(mostPlaces, 0), distances{5, 5}, nil, false)
}

// TestCutsBestOfEqualCosts has several lists of cuts with the least cost, with equal and with different numbers of cuts; the others are given behind the first one.
func TestCutsBestOfEqualCosts(t *testing.T) {
	for _, e := range []struct {
		costs []int
		d     distances
		lists [][]int
	}{
		{[]int{9, 4, 4, 9, 9}, distances{2, 3}, [][]int{{1, 4}, {2, 4}}},
		{[]int{9, 1, 3, 2, 9, 4}, distances{2, 3}, [][]int{{1, 3, 5}, {2, 5}}},
		{[]int{0, 5}, distances{1, 2}, [][]int{{0, 1}, {1}}},
		{[]int{3, 0, 5}, distances{1, 3}, [][]int{{1, 2}, {2}}},
		{[]int{0, 0, 5}, distances{1, 3}, [][]int{{0, 1, 2}, {0, 2}, {1, 2}, {2}}},
		{[]int{2, 0, 2, 0, 7}, distances{1, 3}, [][]int{{1, 3, 4}, {1, 4}}},
		{[]int{0, 7, 7, 0, 0, 7}, distances{1, 4}, [][]int{{0, 3, 4, 5}, {0, 3, 5}, {0, 4, 5}, {3, 4, 5}, {3, 5}}},
		{[]int{9, 9, 3, 3, 3, 9, 9, 1}, distances{3, 5}, [][]int{{2, 7}, {3, 7}, {4, 7}}},
		{[]int{5, 1, 5, 3, 2, 5, 1, 1}, distances{2, 4}, [][]int{{1, 4, 7}, {3, 7}}},
		{[]int{9, 2, 9, 1, 1, 9, 4}, distances{1, 5}, [][]int{{3, 6}, {4, 6}}},
		{[]int{9, 0, 1, 0, 9, 0}, distances{1, 4}, [][]int{{1, 3, 5}, {1, 5}, {3, 5}}},
		{[]int{1, 1, 1, 1, 1, 1, 1}, distances{1, 3}, [][]int{{0, 3, 6}, {1, 3, 6}, {1, 4, 6}, {2, 3, 6}, {2, 4, 6}, {2, 5, 6}}},
	} {
		lists := cheapestOf(e.costs, slices.DeleteFunc(listsToLast(len(e.costs)), func(cuts []int) bool { return !isCuts(len(e.costs), e.d, cuts) }))
		slices.SortFunc(lists, slices.Compare)
		if !slices.EqualFunc(lists, e.lists, slices.Equal) {
			t.Fatalf("the least cost of %v, %v have %v, not %v", e.costs, e.d, lists, e.lists)
		}
		wantBest(t, e.costs, e.d, e.lists[0], true)
	}
	for places := 1; places <= mostPlaces; places++ {
		wantBest(t, equalRow(places, 0), anyDistances, steps(places, 0, 1), true)
		wantBest(t, peakRow(places, places-1, dearest), anyDistances, steps(places, 0, 1), true)
	}
}

// TestCutsBestIsExact compares with all allowed cuts, one by one.
func TestCutsBestIsExact(t *testing.T) {
	signals := signalsByPlaces()
	none, alone, several := 0, 0, 0
	forAllowed(func(places int, d distances, allowed [][]int) {
		for _, costs := range signals[places] {
			cheapest := cheapestOf(costs, allowed)
			wantBest(t, costs, d, firstOf(cheapest), len(allowed) > 0)
			switch len(cheapest) {
			case 0:
				none++
			case 1:
				alone++
			default:
				several++
			}
		}
	})
	wantOften(t, none, 20000)
	wantOften(t, alone, 10000)
	wantOften(t, several, 5000)
}

// TestCutsBestHasTheMostCutsOfTheCheapest has lists with the least cost that differ in their numbers of cuts. The first of them never has the lesser number: where another list comes later and has more cuts between two cuts that both have, two of these lie between two of the first one, and if both lists exchange what follows there, both still cost the least, and what was the first one comes even earlier.
func TestCutsBestHasTheMostCutsOfTheCheapest(t *testing.T) {
	signals := signalsByPlaces()
	differ, notAlone := 0, 0
	forAllowed(func(places int, d distances, allowed [][]int) {
		for _, costs := range signals[places] {
			numbers := map[int]int{}
			for _, cuts := range cheapestOf(costs, allowed) {
				numbers[len(cuts)]++
			}
			if len(numbers) < 2 {
				continue
			}
			differ++
			best, _ := bestOf(t, costs, d)
			for number := range numbers {
				if number > len(best) {
					t.Fatalf("%s returned %v, but there are %d cuts with the least cost", onSignal("CutsBest", costs, d), best, number)
				}
			}
			if numbers[len(best)] > 1 {
				notAlone++
			}
		}
	})
	wantOften(t, differ, 5000)
	wantOften(t, notAlone, 500)
}

func TestP119AllowedCutsEndAtTheLastPlace(t *testing.T) {
	forCutLists(t, func(costs []int, d distances, cuts []int) {
		end := len(costs) - 1
		wantNumber(t, "the last one of "+onSignal("CutsAllowed", costs, d, cuts), cuts[len(cuts)-1], end)
		for least := 1; least <= d.least; least++ {
			wantAllowed(t, costs, distances{least, d.most}, cuts, true)
			wantAllowed(t, costs, distances{least, mostPlaces}, cuts, true)
		}
		for most := d.most; most <= mostPlaces; most++ {
			wantAllowed(t, costs, distances{d.least, most}, cuts, true)
		}
		for _, further := range []int{0, end - 1, end, end + 1, end + d.least, end + d.most} {
			wantNotAllowed(t, costs, d, slices.Concat(cuts, []int{further}))
		}
	})
}

func TestP120AllowedCutsAreWithinTheYears(t *testing.T) {
	forCutLists(t, func(costs []int, d distances, cuts []int) {
		least, greatest, ok := impl.CutsYears(len(costs), d.least, d.most)
		if !ok || len(cuts) < least || len(cuts) > greatest {
			t.Fatalf("%s returned %d, %d, %t, but %v are allowed", onPlaces("CutsYears", len(costs), d), least, greatest, ok, cuts)
		}
		if many := impl.CutsMany(len(costs), d.least, d.most); many < 1 {
			t.Fatalf("%s returned %d, but %v are allowed", onPlaces("CutsMany", len(costs), d), many, cuts)
		}
	})
}

func TestP121CostIsTheSumOfTheCostsAtTheCuts(t *testing.T) {
	greater := 0
	forCutLists(t, func(costs []int, d distances, cuts []int) {
		cost := costAt(costs, cuts)
		wantCost(t, costs, d, cuts, cost)
		if slices.Max(costs) < dearest {
			greater++
			wantCost(t, plus(costs, equalRow(len(costs), 1)), d, cuts, cost+len(cuts))
		}
	})
	wantOften(t, greater, 50000)
}

func TestP122BestCostsNotMore(t *testing.T) {
	equal := 0
	forCutLists(t, func(costs []int, d distances, cuts []int) {
		best, least := bestOf(t, costs, d)
		cost := costOf(t, costs, d, cuts)
		if least > cost || least == cost && comesFirst(cuts, best) {
			t.Fatalf("%s returned %v with the cost %d, but %v have %d", onSignal("CutsBest", costs, d), best, least, cuts, cost)
		}
		if least == cost && comesFirst(best, cuts) {
			equal++
		}
	})
	wantOften(t, equal, 10000)
}

func TestP123ManyIsTheSumOverTheFirstCuts(t *testing.T) {
	forPlacesAndDistances(func(places int, d distances) {
		sum := 0
		for first := d.least - 1; first <= d.most-1 && first < places; first++ {
			if behind := places - 1 - first; behind > 0 {
				sum += impl.CutsMany(behind, d.least, d.most)
			} else {
				sum++
			}
		}
		wantCutsMany(t, places, d, sum)
	})
}

func TestP124ManyOfAllDistancesAndOfASingleOne(t *testing.T) {
	power := 1
	for places := 1; places <= mostPlaces; places++ {
		wantCutsMany(t, places, anyDistances, power)
		power *= 2
		for least := 1; least <= mostPlaces; least++ {
			want := 0
			if places%least == 0 {
				want = 1
			}
			wantCutsMany(t, places, distances{least, least}, want)
		}
	}
	forPlacesAndDistances(func(places int, d distances) {
		many := impl.CutsMany(places, d.least, d.most)
		if d.most < mostPlaces && impl.CutsMany(places, d.least, d.most+1) < many {
			t.Fatalf("%s returned %d, which is more than for a greater most", onPlaces("CutsMany", places, d), many)
		}
	})
}

func TestP125BestIsAllowed(t *testing.T) {
	forBest(t, func(costs []int, d distances, best []int) {
		wantAllowed(t, costs, d, best, true)
		if !isCuts(len(costs), d, best) || impl.CutsMany(len(costs), d.least, d.most) < 1 {
			t.Fatalf("%s returned %v", onSignal("CutsBest", costs, d), best)
		}
	})
}

func TestP126BestSucceedsIfThereAreCuts(t *testing.T) {
	fails := 0
	forSignals(func(costs []int, d distances) {
		if impl.CutsMany(len(costs), d.least, d.most) < 1 {
			fails++
			wantBest(t, costs, d, nil, false)
			return
		}
		bestOf(t, costs, d)
	})
	wantOften(t, fails, 20000)
}

func TestP127BestBehindTheFirstCut(t *testing.T) {
	several := 0
	forBest(t, func(costs []int, d distances, best []int) {
		if len(best) < 2 {
			return
		}
		several++
		behind := best[0] + 1
		others := plus(best[1:], equalRow(len(best)-1, -behind))
		wantBest(t, costs[behind:], d, others, true)
	})
	wantOften(t, several, 10000)
}

func TestP128BestOfAllDistancesHasTheCostOfTheLastPlace(t *testing.T) {
	for _, costs := range sampleSignals() {
		_, least := bestOf(t, costs, anyDistances)
		wantNumber(t, "the cost of "+onSignal("CutsBest", costs, anyDistances), least, costs[len(costs)-1])
	}
}

func TestP129BestOfAllCostsDoubled(t *testing.T) {
	times := 0
	forBest(t, func(costs []int, d distances, best []int) {
		doubled := multiplied(costs, 2)
		if isSignal(doubled) {
			times++
			wantBest(t, doubled, d, best, true)
		}
	})
	wantOften(t, times, 15000)
	wantBest(t, equalRow(mostPlaces, dearest/2), distances{3, 5}, []int{2, 5, 10, 15}, true)
	wantBest(t, equalRow(mostPlaces, dearest), distances{3, 5}, []int{2, 5, 10, 15}, true)
}

func TestP130YearsReachJustToTheLastPlace(t *testing.T) {
	forCutsYears(t, func(places int, d distances, least int, greatest int) {
		if least*d.most < places || (least-1)*d.most >= places {
			t.Fatalf("%s returned the least number %d", onPlaces("CutsYears", places, d), least)
		}
		if greatest*d.least > places || (greatest+1)*d.least <= places {
			t.Fatalf("%s returned the greatest number %d", onPlaces("CutsYears", places, d), greatest)
		}
	})
}

func TestP131ManyOfAGreaterLeast(t *testing.T) {
	forPlacesAndDistances(func(places int, d distances) {
		many := impl.CutsMany(places, d.least, d.most)
		if d.least < d.most && impl.CutsMany(places, d.least+1, d.most) > many {
			t.Fatalf("%s returned %d, which is less than for a greater least", onPlaces("CutsMany", places, d), many)
		}
	})
}

func TestP132BestOfAGreaterMost(t *testing.T) {
	less := 0
	forBest(t, func(costs []int, d distances, best []int) {
		if d.most == mostPlaces {
			return
		}
		cost := costOf(t, costs, d, best)
		_, wider := bestOf(t, costs, distances{d.least, d.most + 1})
		if wider > cost {
			t.Fatalf("%s has the cost %d, and for a greater most %d", onSignal("CutsBest", costs, d), cost, wider)
		}
		if wider < cost {
			less++
		}
	})
	wantOften(t, less, 1000)
}

func TestP133BestWithAGreaterCost(t *testing.T) {
	same, greater := 0, 0
	forBest(t, func(costs []int, d distances, best []int) {
		cost := costOf(t, costs, d, best)
		for i := range costs {
			if costs[i] == dearest {
				continue
			}
			switch _, dearer := bestOf(t, replaced(costs, i, costs[i]+1), d); dearer {
			case cost:
				same++
			case cost + 1:
				greater++
			default:
				t.Fatalf("%s has the cost %d, and with a cost 1 greater at the place %d %d", onSignal("CutsBest", costs, d), cost, i, dearer)
			}
		}
	})
	wantOften(t, same, 50000)
	wantOften(t, greater, 20000)
}

func TestP134YearsOfTheDistanceOne(t *testing.T) {
	forCutsYears(t, func(places int, _ distances, _ int, _ int) {
		wantCutsYears(t, places, distances{1, 1}, places, places, true)
		wantCutsMany(t, places, distances{1, 1}, 1)
	})
}

func TestP135CutsAtAllPlacesAndASingleOne(t *testing.T) {
	forCutLists(t, func(costs []int, _ distances, _ []int) {
		places := len(costs)
		wantAllowed(t, costs, distances{1, 1}, steps(places, 0, 1), true)
		wantAllowed(t, costs, distances{places, places}, []int{places - 1}, true)
	})
}

// cutsMemory has calls of all functions with a list as the costs, as the cuts, and as both in one memory, with distances for which they succeed and fail.
func cutsMemory(lists [][]int) memoryCheck[int] {
	calls := map[string]listCall[int]{}
	costs := mixedCosts(mostPlaces)
	for _, d := range []distances{{1, 1}, {1, 2}, {2, 3}, {3, 5}, {1, mostPlaces}, {mostPlaces, mostPlaces}, {0, 1}, {2, 1}, {1, mostPlaces + 1}} {
		addCall := func(name string, first func(list []int) []int, second func(list []int) []int) {
			calls[onPlaces("CutsAllowed"+name, 0, d)] = func(list []int) ([]int, bool) {
				return nil, impl.CutsAllowed(first(list), d.least, d.most, second(list))
			}
			calls[onPlaces("CutsCost"+name, 0, d)] = func(list []int) ([]int, bool) {
				return []int{impl.CutsCost(first(list), d.least, d.most, second(list))}, true
			}
		}
		same := func(list []int) []int { return list }
		addCall(" of costs and all places", same, func(list []int) []int { return steps(len(list), 0, 1) })
		addCall(" of costs and the last place", same, func(list []int) []int { return []int{len(list) - 1} })
		addCall(" of cuts", func([]int) []int { return costs }, same)
		addCall(" of one list as both", same, same)
		addCall(" of both halves", func(list []int) []int { return list[:len(list)/2] }, func(list []int) []int { return list[len(list)/2:] })
		calls[onPlaces("CutsBest", 0, d)] = func(list []int) ([]int, bool) { return impl.CutsBest(list, d.least, d.most) }
	}
	return memoryCheck[int]{lists, calls, spoiledCost, namedInts}
}

// cutLists are lists of places of long signals, and signals with all of their places behind them in one list.
func cutLists() [][]int {
	list := [][]int{{15}, {7, 15}, {0, 15}, {3, 7, 11, 15}, {2, 5, 10, 15}, steps(mostPlaces, 0, 1), {15, 15}, {5, 3, 15}, {16}, {-1, 15}}
	for places := 1; places <= mostPlaces; places++ {
		list = append(list, slices.Concat(mixedCosts(places), steps(places, 0, 1)))
	}
	return list
}

func TestCutsFunctionsWriteNothing(t *testing.T) {
	cutsMemory(slices.Concat(sampleSignals(), noSignals(), cutLists())).wantNothingWritten(t)
}

func TestCutsFunctionsShareNothing(t *testing.T) {
	cutsMemory(slices.Concat(longSignals(), mixedSignals(2*mostPlaces), noSignals()[:60], cutLists())).wantNothingShared(t)
}

func TestCutsFunctionsReadNothingBehindAList(t *testing.T) {
	cutsMemory(slices.Concat(longSignals(), mixedSignals(2*mostPlaces), noSignals()[:60], cutLists())).wantNothingReadBehind(t)
}
