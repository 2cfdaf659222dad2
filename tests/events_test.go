package tests

import (
	"fmt"
	"math"
	"math/rand/v2"
	"slices"
	"strconv"
	"testing"

	"loop.example/icecores/impl"
)

const (
	mostEvents = 8
	biggest    = 1000
)

// nobody is the number of an event without a partner.
const nobody = -1

// spoiledEvent is no event; the tests write it over memory that no function may use.
var spoiledEvent = event(-7, -8)

func event(depth int, size int) impl.Event {
	return impl.Event{Depth: depth, Size: size}
}

// eventsAt returns events with depths and sizes of two lists.
func eventsAt(depths []int, sizes []int) []impl.Event {
	list := []impl.Event{}
	for i, d := range depths {
		list = append(list, event(d, sizes[i]))
	}
	return list
}

// sized returns events with sizes, at depths from 0 on.
func sized(sizes ...int) []impl.Event {
	return eventsAt(steps(len(sizes), 0, 1), sizes)
}

// alikeEvents returns a number of events of one size.
func alikeEvents(number int, size int) []impl.Event {
	return sized(equalRow(number, size)...)
}

func sizesOf(list []impl.Event) []int {
	return eachAs(list, func(e impl.Event) int { return e.Size })
}

func eventDepths(list []impl.Event) []int {
	return eachAs(list, func(e impl.Event) int { return e.Depth })
}

func namedEvents(list []impl.Event) string {
	return listText(list, 5*mostEvents, "events", func(e impl.Event) string { return strconv.Itoa(e.Depth) + ":" + strconv.Itoa(e.Size) })
}

// eventLists are two lists of events and a tolerance, valid or not.
type eventLists struct {
	a, b      []impl.Event
	tolerance int
}

// matchNumber is a function that tells a number of two lists of events and a tolerance.
type matchNumber func(a []impl.Event, b []impl.Event, tolerance int) int

// call returns the text of a call with both lists, the tolerance, and further lists.
func (l eventLists) call(name string, others ...[]int) string {
	s := callText(name, namedEvents(l.a)+", "+namedEvents(l.b), l.tolerance)
	for _, other := range others {
		s = s[:len(s)-1] + ", " + namedInts(other) + ")"
	}
	return s
}

// exchanged returns the second list as the first one.
func (l eventLists) exchanged() eventLists {
	return eventLists{l.b, l.a, l.tolerance}
}

// within returns the same lists with another tolerance.
func (l eventLists) within(tolerance int) eventLists {
	return eventLists{l.a, l.b, tolerance}
}

// differ returns by how much the sizes of an event of each list differ.
func (l eventLists) differ(i int, k int) int {
	return max(l.a[i].Size, l.b[k].Size) - min(l.a[i].Size, l.b[k].Size)
}

// isMatching tells by each two numbers whether a list is a matching of two lists of events.
func (l eventLists) isMatching(match []int) bool {
	for i, k := range match {
		if k == nobody {
			continue
		}
		if i >= len(l.a) || k < 0 || k >= len(l.b) || l.differ(i, k) > l.tolerance {
			return false
		}
		for _, earlier := range match[:i] {
			if earlier >= k {
				return false
			}
		}
	}
	return len(match) == len(l.a)
}

// pairsIn returns the number of partners of a matching.
func pairsIn(match []int) int {
	return len(match) - len(withoutPartner(match))
}

// withoutPartner returns the indexes of the events of a first list that have no partner.
func withoutPartner(match []int) []int {
	list := []int{}
	for i, k := range match {
		if k == nobody {
			list = append(list, i)
		}
	}
	return list
}

// isBetter tells whether the first number of a matching that differs from the other one is a partner where this has none or a greater one.
func isBetter(match []int, other []int) bool {
	for i, k := range match {
		if k != other[i] {
			return k != nobody && (other[i] == nobody || k < other[i])
		}
	}
	return false
}

// turnedMatch returns a matching as one of the second list, which has a number of events, and the first one.
func turnedMatch(match []int, number int) []int {
	list := equalRow(number, nobody)
	for i, k := range match {
		if k != nobody {
			list[k] = i
		}
	}
	return list
}

// choicesOf returns all ascending lists of a number of indexes of a list.
func choicesOf(length int, chosen int) [][]int {
	return slices.DeleteFunc(ascendingDepths(0, length-1), func(list []int) bool { return len(list) != chosen })
}

// pairings returns all matchings of two lists whose events are alike: as many events are chosen of each, and paired in order.
func pairings(numberA int, numberB int) [][]int {
	list := [][]int{}
	for pairs := range min(numberA, numberB) + 1 {
		for _, ofA := range choicesOf(numberA, pairs) {
			for _, ofB := range choicesOf(numberB, pairs) {
				match := equalRow(numberA, nobody)
				for n, i := range ofA {
					match[i] = ofB[n]
				}
				list = append(list, match)
			}
		}
	}
	return list
}

// farthest returns by how much the sizes of a pair differ at most.
func (l eventLists) farthest(match []int) int {
	most := 0
	for i, k := range match {
		if k != nobody {
			most = max(most, l.differ(i, k))
		}
	}
	return most
}

// matchingsOf keeps those of all matchings of as many events that are matchings of two lists, too.
func (l eventLists) matchingsOf(all [][]int) [][]int {
	return slices.DeleteFunc(slices.Clone(all), func(match []int) bool { return l.farthest(match) > l.tolerance })
}

// mostPairsOf returns the matchings with the most pairs, the better ones first.
func mostPairsOf(matchings [][]int) [][]int {
	most := 0
	for _, match := range matchings {
		most = max(most, pairsIn(match))
	}
	list := slices.DeleteFunc(slices.Clone(matchings), func(match []int) bool { return pairsIn(match) < most })
	slices.SortFunc(list, func(x []int, y []int) int {
		switch {
		case isBetter(x, y):
			return -1
		case isBetter(y, x):
			return 1
		}
		return 0
	})
	return list
}

// depthsFor returns a number of depths of events: from 0 on, up to the greatest depth, from end to end, and between.
func depthsFor(number int, way int) []int {
	switch way % 4 {
	case 0:
		return steps(number, 0, 1)
	case 1:
		return steps(number, deepest-number+1, 1)
	case 2:
		return steps(number, 0, deepest/max(1, number-1))
	}
	return steps(number, 7, 1000+way)
}

// shortLists are all pairs of lists of up to three events with few sizes, with different depths and tolerances.
func shortLists() []eventLists {
	sizes := [][]int{}
	for number := range 4 {
		sizes = append(sizes, listsOf(number, 1, 2, 4)...)
	}
	list := []eventLists{}
	for i, a := range sizes {
		for k, b := range sizes {
			l := eventLists{a: eventsAt(depthsFor(len(a), i), a), b: eventsAt(depthsFor(len(b), i+k), b)}
			list = append(list, l.within(0), l.within(1), l.within(2+i%2))
		}
	}
	return list
}

// longLists have as many events as are allowed or one less: all alike, rising, falling, up and down, with a strange event at one place, and at both ends of the range of sizes.
func longLists() []eventLists {
	sizes := [][]int{}
	for _, number := range []int{mostEvents, mostEvents - 1} {
		sizes = append(sizes,
			equalRow(number, 1), equalRow(number, 500), equalRow(number, biggest), steps(number, 1, 1), steps(number, 8, -1), steps(number, biggest-7, 1),
			slices.Repeat([]int{1, biggest}, mostEvents)[:number], slices.Repeat([]int{2, 1, 3}, mostEvents)[:number], slices.Repeat([]int{3, 3, 1, 1}, mostEvents)[:number])
		for _, i := range []int{0, number / 2, number - 1} {
			sizes = append(sizes, replaced(steps(number, 1, 2), i, biggest), replaced(equalRow(number, 3), i, biggest))
		}
	}
	list := []eventLists{}
	for i, a := range sizes {
		for k, b := range sizes {
			l := eventLists{a: eventsAt(depthsFor(len(a), i), a), b: eventsAt(depthsFor(len(b), k+1), b)}
			list = append(list, l.within([]int{0, 1, 2, 7, biggest - 1, biggest}[(i+k)%6]))
		}
	}
	return list
}

// mixedLists are the same ones in each run, of all numbers of events, with few and with many sizes.
func mixedLists(rounds int) []eventLists {
	r := rand.New(rand.NewPCG(16, 151))
	list := []eventLists{}
	for round := range rounds {
		most := []int{2, 5, 20, biggest}[round%4]
		events := func(number int) []impl.Event {
			sizes := []int{}
			for range number {
				sizes = append(sizes, 1+r.IntN(most))
			}
			return eventsAt(depthsFor(number, r.IntN(20)), sizes)
		}
		for a := range mostEvents + 1 {
			for b := range mostEvents + 1 {
				list = append(list, eventLists{events(a), events(b), r.IntN(most/2 + 1)})
			}
		}
	}
	return list
}

func sampleEventLists() []eventLists {
	return slices.Concat(shortLists(), longLists(), mixedLists(8))
}

// sampleEvents returns each of the sample lists of events once.
func sampleEvents() [][]impl.Event {
	list, seen := [][]impl.Event{}, map[string]bool{}
	for _, l := range sampleEventLists() {
		for _, events := range [][]impl.Event{l.a, l.b} {
			if name := namedEvents(events); !seen[name] {
				seen[name] = true
				list = append(list, events)
			}
		}
	}
	return list
}

// sizesOutside are no sizes, and so are the tolerances among them that are not 0: next to both ends of their range, and at those of int.
func sizesOutside() []int {
	return []int{0, -1, -2, spoiledEvent.Size, -biggest, -1 << 32, -1<<32 + 5, math.MinInt + 1, math.MinInt, biggest + 1, biggest + 2, 2 * biggest, 1 << 16, 1 << 32, 1<<32 + 5, math.MaxInt - 1, math.MaxInt}
}

func tolerancesOutside() []int {
	return sizesOutside()[1:]
}

// noEvents break each condition of events, at each place of a list.
func noEvents() [][]impl.Event {
	list := [][]impl.Event{
		eventsAt([]int{5, 5}, []int{1, 2}), eventsAt([]int{6, 5}, []int{1, 2}), eventsAt([]int{0, 0}, []int{3, 3}), eventsAt([]int{deepest, 0}, []int{3, 3}), eventsAt([]int{deepest, deepest}, []int{3, 3}), eventsAt([]int{0, 9, 5, 10}, []int{1, 1, 1, 1}),
		eventsAt([]int{math.MinInt, math.MaxInt}, []int{5, 5}), eventsAt([]int{math.MaxInt, math.MinInt}, []int{5, 5}), eventsAt([]int{5, 6}, []int{math.MinInt, math.MaxInt}), eventsAt([]int{5, 6}, []int{math.MaxInt, math.MinInt}), eventsAt([]int{-1, deepest + 1}, []int{0, biggest + 1}),
		alikeEvents(mostEvents+1, 1), alikeEvents(mostEvents+1, biggest), sized(steps(mostEvents+1, 1, 1)...), alikeEvents(mostEvents+2, 5), alikeEvents(2*mostEvents, 5), alikeEvents(2*mostEvents+1, 5), alikeEvents(1000, 5), alikeEvents(mostEvents+1, 0),
	}
	for _, events := range [][]impl.Event{sized(5), eventsAt([]int{3, 9}, []int{1, biggest}), eventsAt(steps(mostEvents-1, 5, 10), steps(mostEvents-1, 1, 1)), eventsAt(steps(mostEvents, 0, 4000), equalRow(mostEvents, 500))} {
		for i, e := range events {
			for _, d := range append(outsideDepths(), spoiledEvent.Depth) {
				list = append(list, replaced(events, i, event(d, e.Size)))
			}
			for _, size := range sizesOutside() {
				list = append(list, replaced(events, i, event(e.Depth, size)))
			}
			if i > 0 {
				list = append(list, replaced(events, i, event(events[i-1].Depth, e.Size)), replaced(events, i, event(events[i-1].Depth-1, e.Size)))
			}
			list = append(list, slices.Insert(slices.Clone(events), i, e))
		}
		if len(events) > 1 {
			list = append(list, inOppositeOrder(events))
		}
	}
	return list
}

// isEvents tells by each two events whether a list are events.
func isEvents(list []impl.Event) bool {
	for i, e := range list {
		if e.Depth < 0 || e.Depth > deepest || e.Size < 1 || e.Size > biggest {
			return false
		}
		for _, earlier := range list[:i] {
			if earlier.Depth >= e.Depth {
				return false
			}
		}
	}
	return len(list) <= mostEvents
}

func wantEventsValid(t *testing.T, list []impl.Event, want bool) {
	t.Helper()
	if got := impl.EventsValid(list); got != want {
		t.Fatalf("EventsValid(%s) returned %t", namedEvents(list), got)
	}
}

func wantMatchMany(t *testing.T, l eventLists, match []int, want int) {
	t.Helper()
	if got := impl.MatchMany(l.a, l.b, l.tolerance, match); got != want {
		t.Fatalf("%s returned %d, not %d", l.call("MatchMany", match), got, want)
	}
}

// wantPairs checks that a list is a matching with a number of pairs.
func wantPairs(t *testing.T, l eventLists, match []int, want int) {
	t.Helper()
	if !impl.MatchOk(l.a, l.b, l.tolerance, match) {
		t.Fatalf("%s returned false", l.call("MatchOk", match))
	}
	wantMatchMany(t, l, match, want)
}

// wantNoMatching checks that a list is no matching.
func wantNoMatching(t *testing.T, l eventLists, match []int) {
	t.Helper()
	if impl.MatchOk(l.a, l.b, l.tolerance, match) {
		t.Fatalf("%s returned true", l.call("MatchOk", match))
	}
	wantMatchMany(t, l, match, -1)
}

// wantMatching checks that a list is a matching, or not, as isMatching tells, and returns this.
func wantMatching(t *testing.T, l eventLists, match []int) bool {
	t.Helper()
	if l.isMatching(match) {
		wantPairs(t, l, match, pairsIn(match))
		return true
	}
	wantNoMatching(t, l, match)
	return false
}

func wantMost(t *testing.T, l eventLists, want int) {
	t.Helper()
	wantMatchNumber(t, l, "MatchMost", impl.MatchMost, want)
}

func wantCount(t *testing.T, l eventLists, want int) {
	t.Helper()
	wantMatchNumber(t, l, "MatchCount", impl.MatchCount, want)
}

func wantMatchNumber(t *testing.T, l eventLists, name string, number matchNumber, want int) {
	t.Helper()
	if got := number(l.a, l.b, l.tolerance); got != want {
		t.Fatalf("%s returned %d, not %d", l.call(name), got, want)
	}
}

func wantBestMatch(t *testing.T, l eventLists, want []int, wantOk bool) {
	t.Helper()
	got, ok := impl.MatchBest(l.a, l.b, l.tolerance)
	if !slices.Equal(got, want) || ok != wantOk {
		t.Fatalf("%s returned %v, %t, not %v, %t", l.call("MatchBest"), got, ok, want, wantOk)
	}
}

// wantMatchings checks all that is told of matchings.
func wantMatchings(t *testing.T, l eventLists, count int, best []int) {
	t.Helper()
	wantCount(t, l, count)
	wantMost(t, l, pairsIn(best))
	wantBestMatch(t, l, best, true)
	wantPairs(t, l, best, pairsIn(best))
}

// wantNoMatchingsOf checks that every function tells that a list or the tolerance is invalid, whatever the third list.
func wantNoMatchingsOf(t *testing.T, l eventLists) {
	t.Helper()
	wantMost(t, l, -1)
	wantCount(t, l, -1)
	wantBestMatch(t, l, nil, false)
	none := equalRow(len(l.a), nobody)
	lists := [][]int{nil, {}, none, {nobody}, {0}, steps(len(l.a), 0, 1), steps(len(l.a), len(l.b)-len(l.a), 1)}
	for i := range min(len(l.a), 2) {
		lists = append(lists, replaced(none, i, 0), replaced(none, len(l.a)-1, i))
	}
	for _, match := range lists {
		wantNoMatching(t, l, match)
	}
}

// mostOf returns MatchMost, which must not be -1.
func mostOf(t *testing.T, l eventLists) int {
	t.Helper()
	return matchNumberOf(t, l, "MatchMost", impl.MatchMost)
}

// countOf returns MatchCount, which must not be -1.
func countOf(t *testing.T, l eventLists) int {
	t.Helper()
	return matchNumberOf(t, l, "MatchCount", impl.MatchCount)
}

func matchNumberOf(t *testing.T, l eventLists, name string, number matchNumber) int {
	t.Helper()
	got := number(l.a, l.b, l.tolerance)
	if got < 0 {
		t.Fatalf("%s returned %d", l.call(name), got)
	}
	return got
}

// forEventLists calls a check with all sample lists and tolerances.
func forEventLists(check func(l eventLists)) {
	for _, l := range sampleEventLists() {
		check(l)
	}
}

// forExactMatchings calls a check with sample lists and all of their matchings, one by one.
func forExactMatchings(check func(l eventLists, matchings [][]int)) {
	known := map[[2]int][][]int{}
	forEventLists(func(l eventLists) {
		numbers := [2]int{len(l.a), len(l.b)}
		if known[numbers] == nil {
			known[numbers] = pairings(len(l.a), len(l.b))
		}
		check(l, l.matchingsOf(known[numbers]))
	})
}

// forMatchings calls a check with sample lists and matchings of them: all of a few, and some of many.
func forMatchings(t *testing.T, check func(l eventLists, match []int)) {
	t.Helper()
	times := 0
	forExactMatchings(func(l eventLists, matchings [][]int) {
		for _, match := range thinned(matchings, 16) {
			if !impl.MatchOk(l.a, l.b, l.tolerance, match) {
				t.Fatalf("%s returned false", l.call("MatchOk", match))
			}
			times++
			check(l, match)
		}
	})
	wantOften(t, times, 30000)
}

// forBestMatches calls a check with sample lists and MatchBest of them, which must succeed.
func forBestMatches(t *testing.T, check func(l eventLists, best []int)) {
	t.Helper()
	forEventLists(func(l eventLists) {
		best, ok := impl.MatchBest(l.a, l.b, l.tolerance)
		if !ok || len(best) != len(l.a) {
			t.Fatalf("%s returned %v, %t", l.call("MatchBest"), best, ok)
		}
		check(l, best)
	})
}

// deeper returns events with all depths greater by a number of millimeters.
func deeper(list []impl.Event, depth int) []impl.Event {
	return eventsAt(plus(eventDepths(list), equalRow(len(list), depth)), sizesOf(list))
}

// sizesTurned returns events with their sizes in the opposite order.
func sizesTurned(list []impl.Event) []impl.Event {
	return eventsAt(eventDepths(list), inOppositeOrder(sizesOf(list)))
}

func TestEventsMaxAndSizeMax(t *testing.T) {
	if impl.EventsMax != mostEvents || impl.SizeMax != biggest {
		t.Errorf("EventsMax is %d, SizeMax is %d", impl.EventsMax, impl.SizeMax)
	}
}

func TestEventsValidExamples(t *testing.T) {
	for _, list := range [][]impl.Event{
		nil, {}, sized(1), sized(biggest), sized(5, 9, 5), {event(deepest, 1)}, {event(0, 1), event(deepest, biggest)}, {event(deepest-1, biggest), event(deepest, biggest)}, {event(4, 9), event(7, 6)},
		alikeEvents(mostEvents, 1), alikeEvents(mostEvents, biggest), alikeEvents(mostEvents-1, 7), eventsAt(steps(mostEvents, deepest-mostEvents+1, 1), steps(mostEvents, biggest, -100)),
	} {
		wantEventsValid(t, list, true)
	}
	for _, list := range sampleEvents() {
		wantEventsValid(t, list, true)
	}
	for _, list := range [][]impl.Event{
		{{}}, {event(-1, 1)}, {event(deepest+1, 1)}, sized(0), sized(-1), sized(biggest + 1), {event(5, 1), event(5, 1)}, {event(5, 1), event(4, 1)}, {event(0, 1), event(deepest+1, 1)}, {event(-1, 1), event(0, 1)},
		{event(math.MinInt, 1)}, {event(math.MaxInt, 1)}, sized(math.MinInt), sized(math.MaxInt), alikeEvents(mostEvents+1, 1), {spoiledEvent}, sized(5, 0, 5), sized(5, biggest+1, 5),
	} {
		wantEventsValid(t, list, false)
	}
}

func TestEventsOfEveryDepthAndSize(t *testing.T) {
	for depth := -2; depth <= deepest+2; depth++ {
		wantEventsValid(t, []impl.Event{event(depth, 5)}, depth >= 0 && depth <= deepest)
	}
	for size := -2; size <= biggest+2; size++ {
		valid := size >= 1 && size <= biggest
		wantEventsValid(t, sized(size), valid)
		wantEventsValid(t, sized(1, size, biggest), valid)
	}
}

// TestEveryShortListOfEvents checks every list of up to three events at and next to both ends of the ranges.
func TestEveryShortListOfEvents(t *testing.T) {
	valid := 0
	for number := range 4 {
		for _, depths := range listsOf(number, -1, 0, 1, 2, deepest, deepest+1) {
			for _, sizes := range listsOf(number, 0, 1, 2, biggest, biggest+1) {
				list := eventsAt(depths, sizes)
				wantEventsValid(t, list, isEvents(list))
				if isEvents(list) {
					valid++
				}
			}
		}
	}
	wantNumber(t, "the number of lists of events", valid, 1+4*3+6*9+4*27)
}

func TestNoEvents(t *testing.T) {
	some := [][]impl.Event{nil, sized(5), eventsAt([]int{3, 9}, []int{1, biggest}), alikeEvents(mostEvents, 500)}
	none := noEvents()
	for i, list := range none {
		wantEventsValid(t, list, false)
		for _, tolerance := range []int{0, 1, biggest, -1, biggest + 1} {
			for _, other := range some {
				wantNoMatchingsOf(t, eventLists{list, other, tolerance})
				wantNoMatchingsOf(t, eventLists{other, list, tolerance})
			}
			wantNoMatchingsOf(t, eventLists{list, list, tolerance})
			wantNoMatchingsOf(t, eventLists{list, none[i/2], tolerance})
		}
	}
}

func TestListsOfEveryNumberOfEvents(t *testing.T) {
	for number := range 2*mostEvents + 5 {
		for _, list := range [][]impl.Event{alikeEvents(number, 1), alikeEvents(number, biggest), eventsAt(steps(number, 9, 100), steps(number, 1, 3))} {
			if number > mostEvents {
				wantNoMatchingsOf(t, eventLists{list, nil, 0})
				wantNoMatchingsOf(t, eventLists{nil, list, 0})
				continue
			}
			wantEventsValid(t, list, true)
			wantMatchings(t, eventLists{list, nil, 0}, 1, equalRow(number, nobody))
			wantMatchings(t, eventLists{nil, list, 0}, 1, nil)
		}
	}
}

func TestNoTolerances(t *testing.T) {
	lists := slices.Concat(thinned(shortLists(), 40), thinned(longLists(), 20), []eventLists{{}, {a: sized(5)}, {b: sized(5)}, {sized(5), sized(5), 0}, {sized(1), sized(biggest), 0}})
	for _, tolerance := range tolerancesOutside() {
		for _, l := range lists {
			wantNoMatchingsOf(t, l.within(tolerance))
		}
	}
}

// TestEveryTolerance has sizes that differ by just the tolerance, and by 1 more, in both directions.
func TestEveryTolerance(t *testing.T) {
	equal, oneMore := 0, 0
	for _, sizes := range [][2]int{{1, 1}, {1, 2}, {1, biggest}, {2, biggest}, {1, biggest - 1}, {500, 500}, {500, 503}, {400, 600}, {biggest, biggest}} {
		l := eventLists{a: sized(sizes[0]), b: sized(sizes[1])}
		for tolerance := range biggest + 1 {
			for _, way := range []eventLists{l.within(tolerance), l.exchanged().within(tolerance)} {
				wantPairs(t, way, []int{nobody}, 0)
				switch difference := sizes[1] - sizes[0]; {
				case difference <= tolerance:
					wantMatchings(t, way, 2, []int{0})
					if difference == tolerance {
						equal++
					}
				default:
					wantMatchings(t, way, 1, []int{nobody})
					wantNoMatching(t, way, []int{0})
					if difference == tolerance+1 {
						oneMore++
					}
				}
			}
		}
	}
	wantNumber(t, "the number of sizes that differ by the tolerance", equal, 18)
	wantNumber(t, "the number of sizes that differ by 1 more", oneMore, 12)
}

func TestMatchOkExamples(t *testing.T) {
	l := eventLists{sized(5, 9, 5), eventsAt([]int{4, 7}, []int{9, 6}), 1}
	for _, e := range []struct {
		match []int
		pairs int
	}{
		{[]int{-1, 0, 1}, 2}, {[]int{-1, -1, -1}, 0}, {[]int{1, -1, -1}, 1}, {[]int{-1, 0, -1}, 1}, {[]int{-1, -1, 1}, 1},
		// Sizes that differ too much.
		{[]int{0, -1, -1}, -1}, {[]int{-1, 1, -1}, -1}, {[]int{-1, -1, 0}, -1}, {[]int{0, 1, -1}, -1}, {[]int{0, -1, 1}, -1},
		// Partners that are equal or descend, also with none between them.
		{[]int{1, 0, -1}, -1}, {[]int{1, -1, 1}, -1}, {[]int{1, -1, 0}, -1}, {[]int{1, 0, 1}, -1}, {[]int{-1, 0, 0}, -1},
		// Too short or too long.
		{nil, -1}, {[]int{}, -1}, {[]int{-1}, -1}, {[]int{-1, 0}, -1}, {[]int{-1, -1}, -1}, {[]int{-1, 0, 1, -1}, -1}, {[]int{-1, -1, -1, -1}, -1}, {[]int{-1, 0, 1, 2}, -1}, {equalRow(1000, nobody), -1},
		// Numbers below -1 or beyond the second list.
		{[]int{-2, 0, 1}, -1}, {[]int{-1, 0, -2}, -1}, {[]int{-1, -2, -1}, -1}, {[]int{-2, -2, -2}, -1}, {[]int{-1, 0, 2}, -1}, {[]int{-1, -1, 2}, -1}, {[]int{2, -1, -1}, -1}, {[]int{-1, 0, 3}, -1},
		{[]int{math.MinInt, 0, 1}, -1}, {[]int{-1, 0, math.MinInt}, -1}, {[]int{math.MaxInt, -1, -1}, -1}, {[]int{-1, 0, math.MaxInt}, -1}, {[]int{-1, 0, 1<<32 + 1}, -1}, {[]int{-1, -1 << 32, 1}, -1},
	} {
		if e.pairs >= 0 {
			wantPairs(t, l, e.match, e.pairs)
		} else {
			wantNoMatching(t, l, e.match)
		}
	}
	all := steps(mostEvents, 0, 1)
	wantPairs(t, eventLists{alikeEvents(mostEvents, 1), alikeEvents(mostEvents, biggest), biggest}, all, mostEvents)
	wantPairs(t, eventLists{alikeEvents(mostEvents, biggest), alikeEvents(mostEvents, 1), biggest - 1}, all, mostEvents)
	wantNoMatching(t, eventLists{alikeEvents(mostEvents, biggest), alikeEvents(mostEvents, 1), biggest - 2}, all)
	wantNoMatching(t, eventLists{alikeEvents(mostEvents, 1), alikeEvents(mostEvents-1, 1), 0}, all)
	wantNoMatching(t, eventLists{alikeEvents(mostEvents-1, 1), alikeEvents(mostEvents, 1), 0}, all)
	wantPairs(t, eventLists{}, nil, 0)
	wantPairs(t, eventLists{}, []int{}, 0)
	wantNoMatching(t, eventLists{}, []int{nobody})
	wantNoMatching(t, eventLists{b: sized(5)}, []int{0})
	wantNoMatching(t, eventLists{a: sized(5)}, []int{0})
	wantPairs(t, eventLists{a: sized(5)}, []int{nobody}, 0)
}

// TestMatchOkOfEveryShortList checks every third list of up to one number more than there are events, with numbers at, next to and far from the indexes of the second list.
func TestMatchOkOfEveryShortList(t *testing.T) {
	valid, invalid := 0, 0
	for _, l := range []eventLists{
		{nil, nil, 0}, {sized(5), nil, 0}, {nil, sized(5), 0}, {sized(5), sized(5), 0}, {sized(5), sized(7), 1}, {sized(5, 5), sized(5), 0}, {sized(5, 6), sized(6, 5, 5), 0}, {sized(5, 6), sized(6, 5, 5), 1},
		{sized(5, 9, 5), sized(9, 6), 1}, {sized(1, 1, 1), sized(1, 1, 1), 0}, {sized(1, 2, 3), sized(3, 2, 1, 3), 1}, {sized(1, biggest, 1, biggest), sized(biggest, 1, biggest), 0},
	} {
		numbers := append(steps(len(l.b)+4, -2, 1), math.MinInt, math.MaxInt)
		for length := range len(l.a) + 2 {
			for _, match := range listsOf(length, numbers...) {
				if wantMatching(t, l, match) {
					valid++
				} else {
					invalid++
				}
			}
		}
	}
	wantNumber(t, "the number of matchings", valid, 1+1+1+2+1+3+4+10+5+20+20+13)
	wantOften(t, invalid, 50000)
}

// TestMatchOkOfSpoiledLists changes one number of a matching, leaves one out, repeats one, or exchanges two.
func TestMatchOkOfSpoiledLists(t *testing.T) {
	valid, invalid := 0, 0
	check := func(l eventLists, match []int) {
		if wantMatching(t, l, match) {
			valid++
		} else {
			invalid++
		}
	}
	forMatchings(t, func(l eventLists, match []int) {
		check(l, inOppositeOrder(match))
		for i, k := range match {
			for _, other := range []int{nobody, -2, 0, k - 1, k + 1, len(l.b) - 1, len(l.b), -k, math.MinInt, math.MaxInt} {
				check(l, replaced(match, i, other))
			}
			check(l, slices.Delete(slices.Clone(match), i, i+1))
			check(l, slices.Insert(slices.Clone(match), i, k))
			if i > 0 {
				check(l, replaced(replaced(match, i, match[i-1]), i-1, k))
			}
		}
		check(l, slices.Concat(match, []int{nobody}))
		check(l, slices.Concat(match, []int{len(l.b) - 1}))
	})
	wantOften(t, valid, 100000)
	wantOften(t, invalid, 500000)
}

// TestMatchBestOfEventsWithoutPartners has events without partners at the beginning, in the middle and at the end of the lists.
func TestMatchBestOfEventsWithoutPartners(t *testing.T) {
	for _, e := range []struct {
		a, b      []int
		tolerance int
		best      []int
		count     int
	}{
		{[]int{5, 9, 5}, []int{9, 6}, 1, []int{-1, 0, 1}, 5},
		{[]int{5, 9, 5}, []int{9, 6}, 0, []int{-1, 0, -1}, 2},
		// Of the first list: at the beginning, in the middle, at the end, and at several places.
		{[]int{90, 5, 7}, []int{5, 7}, 1, []int{-1, 0, 1}, 4},
		{[]int{90, 80, 5, 7}, []int{5, 7}, 1, []int{-1, -1, 0, 1}, 4},
		{[]int{5, 90, 7}, []int{5, 7}, 1, []int{0, -1, 1}, 4},
		{[]int{5, 90, 80, 7}, []int{5, 7}, 1, []int{0, -1, -1, 1}, 4},
		{[]int{5, 7, 90}, []int{5, 7}, 1, []int{0, 1, -1}, 4},
		{[]int{5, 7, 90, 80}, []int{5, 7}, 1, []int{0, 1, -1, -1}, 4},
		{[]int{90, 5, 80, 7, 70}, []int{5, 7}, 1, []int{-1, 0, -1, 1, -1}, 4},
		// Of the second list.
		{[]int{5, 7}, []int{90, 5, 7}, 1, []int{1, 2}, 4},
		{[]int{5, 7}, []int{90, 80, 5, 7}, 1, []int{2, 3}, 4},
		{[]int{5, 7}, []int{5, 90, 7}, 1, []int{0, 2}, 4},
		{[]int{5, 7}, []int{5, 90, 80, 7}, 1, []int{0, 3}, 4},
		{[]int{5, 7}, []int{5, 7, 90}, 1, []int{0, 1}, 4},
		{[]int{5, 7}, []int{90, 5, 80, 7, 70}, 1, []int{1, 3}, 4},
		// Of both lists.
		{[]int{90, 5, 7}, []int{30, 5, 7}, 1, []int{-1, 1, 2}, 4},
		{[]int{5, 90, 7}, []int{5, 30, 7}, 1, []int{0, -1, 2}, 4},
		{[]int{5, 7, 90}, []int{5, 7, 30}, 1, []int{0, 1, -1}, 4},
		{[]int{90, 5, 7}, []int{5, 7, 30}, 1, []int{-1, 0, 1}, 4},
		{[]int{5, 7, 90}, []int{30, 5, 7}, 1, []int{1, 2, -1}, 4},
		{[]int{90, 5, 80, 7, 70, 9, 60}, []int{30, 5, 40, 7, 20, 9, 50}, 1, []int{-1, 1, -1, 3, -1, 5, -1}, 8},
		{[]int{90, 80, 70, 60, 50, 40, 30, 5}, []int{5, 10, 11, 12, 13, 14, 15, 16}, 1, []int{-1, -1, -1, -1, -1, -1, -1, 0}, 2},
		{[]int{5, 90, 80, 70, 60, 50, 40, 30}, []int{10, 11, 12, 13, 14, 15, 16, 5}, 1, []int{7, -1, -1, -1, -1, -1, -1, -1}, 2},
		{[]int{90, 80, 70}, []int{30, 40, 50}, 1, []int{-1, -1, -1}, 1},
		{[]int{90}, nil, 1, []int{-1}, 1}, {nil, []int{90}, 1, nil, 1}, {nil, nil, 1, nil, 1}, {[]int{90, 80}, nil, biggest, []int{-1, -1}, 1}, {nil, []int{90, 80}, biggest, nil, 1},
		// One that could have a partner has none, so that others have.
		{[]int{9, 5, 6, 7}, []int{5, 6, 7, 9}, 0, []int{-1, 0, 1, 2}, 9},
		{[]int{5, 6, 7, 9}, []int{9, 5, 6, 7}, 0, []int{1, 2, 3, -1}, 9},
		{[]int{5, 9, 6, 7}, []int{5, 6, 7, 9}, 0, []int{0, -1, 1, 2}, 10},
		{[]int{1, biggest, 1, biggest}, []int{biggest, 1}, biggest - 2, []int{-1, 0, 1, -1}, 6},
	} {
		l := eventLists{sized(e.a...), sized(e.b...), e.tolerance}
		wantMatchings(t, l, e.count, e.best)
		wantMatchings(t, eventLists{deeper(l.a, 77), deeper(l.b, 20000), e.tolerance}, e.count, e.best)
	}
}

// TestMatchBestOfEqualNumbersOfPairs has several matchings with the most pairs; the others are given behind the best one.
func TestMatchBestOfEqualNumbersOfPairs(t *testing.T) {
	for _, e := range []struct {
		a, b      []int
		tolerance int
		matchings [][]int
	}{
		// A partner where others have a greater one.
		{[]int{5}, []int{5, 5}, 0, [][]int{{0}, {1}}},
		{[]int{5}, []int{6, 4}, 1, [][]int{{0}, {1}}},
		{[]int{5}, []int{9, 4, 6}, 1, [][]int{{1}, {2}}},
		{[]int{5, 9}, []int{5, 9, 9}, 0, [][]int{{0, 1}, {0, 2}}},
		{[]int{5, 9}, []int{5, 5, 9}, 0, [][]int{{0, 2}, {1, 2}}},
		// A partner where others have none.
		{[]int{5, 5}, []int{5}, 0, [][]int{{0, -1}, {-1, 0}}},
		{[]int{5, 7, 6}, []int{6}, 1, [][]int{{0, -1, -1}, {-1, 0, -1}, {-1, -1, 0}}},
		{[]int{5, 9, 9}, []int{5, 9}, 0, [][]int{{0, 1, -1}, {0, -1, 1}}},
		{[]int{9, 5, 5, 9}, []int{9, 5, 9}, 0, [][]int{{0, 1, -1, 2}, {0, -1, 1, 2}}},
		// A partner with a greater index is better than none, though it leaves none for the next event.
		{[]int{5, 9}, []int{9, 5}, 0, [][]int{{1, -1}, {-1, 0}}},
		{[]int{5, 6, 9}, []int{9, 6, 5}, 0, [][]int{{2, -1, -1}, {-1, 1, -1}, {-1, -1, 0}}},
		{[]int{5, 9, 5}, []int{9, 5, 9}, 0, [][]int{{1, 2, -1}, {-1, 0, 1}}},
		// Both kinds, at the first number that differs or behind it.
		{[]int{5, 5}, []int{5, 5, 5}, 0, [][]int{{0, 1}, {0, 2}, {1, 2}}},
		{[]int{5, 5, 5}, []int{5, 5}, 0, [][]int{{0, 1, -1}, {0, -1, 1}, {-1, 0, 1}}},
		{[]int{5, 6, 5}, []int{6, 5, 6}, 0, [][]int{{1, 2, -1}, {-1, 0, 1}}},
		{[]int{7, 5, 5}, []int{5, 7, 5}, 0, [][]int{{1, 2, -1}, {1, -1, 2}, {-1, 0, 2}}},
		{[]int{1, 2, 3}, []int{3, 1, 2}, 1, [][]int{{1, 2, -1}, {1, -1, 2}, {-1, 0, 2}, {-1, 1, 2}}},
		{[]int{9, 9, 5}, []int{5, 9, 5, 5}, 0, [][]int{{1, -1, 2}, {1, -1, 3}, {-1, 1, 2}, {-1, 1, 3}}},
	} {
		l := eventLists{sized(e.a...), sized(e.b...), e.tolerance}
		matchings := mostPairsOf(l.matchingsOf(pairings(len(e.a), len(e.b))))
		if !slices.EqualFunc(matchings, e.matchings, slices.Equal) {
			t.Fatalf("of %s, %v have the most pairs, not %v", l.call("all matchings"), matchings, e.matchings)
		}
		for _, match := range matchings {
			wantPairs(t, l, match, pairsIn(matchings[0]))
		}
		wantMost(t, l, pairsIn(matchings[0]))
		wantBestMatch(t, l, matchings[0], true)
	}
}

// TestEventsThatAreAlike has all lists of ascending partners as matchings.
func TestEventsThatAreAlike(t *testing.T) {
	for a := range mostEvents + 1 {
		for b := range mostEvents + 1 {
			best := slices.Concat(steps(min(a, b), 0, 1), equalRow(max(0, a-b), nobody))
			for _, l := range []eventLists{{alikeEvents(a, 5), alikeEvents(b, 5), 0}, {alikeEvents(a, 1), alikeEvents(b, biggest), biggest}, {sized(steps(a, 1, 1)...), sized(steps(b, 8, -1)...), 7}} {
				wantMatchings(t, l, waysToChoose(a+b, a), best)
			}
		}
	}
	wantCount(t, eventLists{alikeEvents(mostEvents, 1), alikeEvents(mostEvents, biggest), biggest}, 12870)
	wantCount(t, eventLists{sized(steps(mostEvents, 1, 142)...), sized(steps(mostEvents, biggest, -142)...), biggest}, 12870)
}

// TestMatchingsAreExact compares with all matchings, one by one.
func TestMatchingsAreExact(t *testing.T) {
	none, alone, several := 0, 0, 0
	first, inside, last := 0, 0, 0
	forExactMatchings(func(l eventLists, matchings [][]int) {
		most := mostPairsOf(matchings)
		wantMatchings(t, l, len(matchings), most[0])
		switch {
		case pairsIn(most[0]) == 0:
			none++
			return
		case len(most) == 1:
			alone++
		default:
			several++
		}
		for _, match := range [][]int{most[0], turnedMatch(most[0], len(l.b))} {
			for _, i := range withoutPartner(match) {
				switch {
				case pairsIn(match[:i]) == 0:
					first++
				case pairsIn(match[i:]) == 0:
					last++
				default:
					inside++
				}
			}
		}
	})
	wantOften(t, none, 500)
	wantOften(t, alone, 1000)
	wantOften(t, several, 1000)
	for _, times := range []int{first, inside, last} {
		wantOften(t, times, 500)
	}
}

func TestP136FirstEventsAreEvents(t *testing.T) {
	for _, list := range sampleEvents() {
		wantEventsValid(t, list, true)
		for k := range list {
			wantEventsValid(t, list[:k], true)
			wantEventsValid(t, replaced(list, k, event(list[k].Depth, 0)), false)
		}
		if len(list) > 0 {
			wantEventsValid(t, append(slices.Clone(list), list[len(list)-1]), false)
		}
	}
}

func TestP137MatchingsWithLessPairsAndAGreaterTolerance(t *testing.T) {
	forMatchings(t, func(l eventLists, match []int) {
		pairs := pairsIn(match)
		for i, k := range match {
			if k != nobody {
				wantPairs(t, l, replaced(match, i, nobody), pairs-1)
			}
		}
		for _, tolerance := range []int{l.tolerance + 1, l.tolerance + 7, biggest - 1, biggest} {
			if tolerance > l.tolerance && tolerance <= biggest {
				wantPairs(t, l.within(tolerance), match, pairs)
			}
		}
		wantPairs(t, l, equalRow(len(l.a), nobody), 0)
	})
}

func TestP138MatchingsTurned(t *testing.T) {
	forMatchings(t, func(l eventLists, match []int) {
		wantPairs(t, l.exchanged(), turnedMatch(match, len(l.b)), pairsIn(match))
	})
}

func TestP139ManyIsAtMostMost(t *testing.T) {
	forMatchings(t, func(l eventLists, match []int) {
		many := impl.MatchMany(l.a, l.b, l.tolerance, match)
		if many < 0 || many > len(l.a) || many > len(l.b) || many > mostOf(t, l) {
			t.Fatalf("%s returned %d, and MatchMost %d", l.call("MatchMany", match), many, mostOf(t, l))
		}
	})
}

func TestP140MostOfExchangedListsAndOppositeOrders(t *testing.T) {
	forEventLists(func(l eventLists) {
		most := mostOf(t, l)
		wantMost(t, l.exchanged(), most)
		wantMost(t, eventLists{sizesTurned(l.a), sizesTurned(l.b), l.tolerance}, most)
	})
}

func TestP141MostWithoutTheLastEventAndWithAGreaterTolerance(t *testing.T) {
	same, less, greater := 0, 0, 0
	forEventLists(func(l eventLists) {
		most := mostOf(t, l)
		if last := len(l.a) - 1; last >= 0 {
			switch mostOf(t, eventLists{l.a[:last], l.b, l.tolerance}) {
			case most:
				same++
			case most - 1:
				less++
			default:
				t.Fatalf("%s returned %d, which differs by more than 1 without the last event", l.call("MatchMost"), most)
			}
		}
		if l.tolerance < biggest {
			wider := mostOf(t, l.within(l.tolerance+1))
			if wider < most {
				t.Fatalf("%s returned %d, and for a greater tolerance %d", l.call("MatchMost"), most, wider)
			}
			if wider > most {
				greater++
			}
		}
	})
	wantOften(t, same, 1000)
	wantOften(t, less, 1000)
	wantOften(t, greater, 500)
}

func TestP142MostOfAListAndItself(t *testing.T) {
	for _, list := range sampleEvents() {
		for _, tolerance := range []int{0, 1, 3, biggest} {
			l := eventLists{list, list, tolerance}
			wantMost(t, l, len(list))
			wantBestMatch(t, l, steps(len(list), 0, 1), true)
		}
	}
}

func TestP143BestIsAMatchingWithTheMostPairs(t *testing.T) {
	forBestMatches(t, func(l eventLists, best []int) {
		wantPairs(t, l, best, mostOf(t, l))
		if !l.isMatching(best) {
			t.Fatalf("%s returned %v, which is no matching", l.call("MatchBest"), best)
		}
	})
}

func TestP144BestHasNoLesserPartners(t *testing.T) {
	times := 0
	forBestMatches(t, func(l eventLists, best []int) {
		for i, k := range best {
			for lesser := range max(0, k) {
				times++
				wantNoMatching(t, l, replaced(best, i, lesser))
			}
		}
	})
	wantOften(t, times, 3000)
}

func TestP145BestHasNoFurtherPartners(t *testing.T) {
	times := 0
	forBestMatches(t, func(l eventLists, best []int) {
		for _, i := range withoutPartner(best) {
			for k := range l.b {
				times++
				wantNoMatching(t, l, replaced(best, i, k))
			}
		}
	})
	wantOften(t, times, 10000)
}

func TestP146CountOfExchangedListsAndWithoutPairs(t *testing.T) {
	one, more := 0, 0
	forEventLists(func(l eventLists) {
		count := countOf(t, l)
		wantCount(t, l.exchanged(), count)
		if count < 1 || (count == 1) != (mostOf(t, l) == 0) {
			t.Fatalf("%s returned %d, and MatchMost %d", l.call("MatchCount"), count, mostOf(t, l))
		}
		if count == 1 {
			one++
		} else {
			more++
		}
	})
	wantOften(t, one, 500)
	wantOften(t, more, 2000)
}

func TestP147CountIsTheSumOverThePartnersOfTheLastEvent(t *testing.T) {
	forEventLists(func(l eventLists) {
		last := len(l.a) - 1
		if last < 0 {
			return
		}
		sum := countOf(t, eventLists{l.a[:last], l.b, l.tolerance})
		for k := range l.b {
			if l.differ(last, k) <= l.tolerance {
				sum += countOf(t, eventLists{l.a[:last], l.b[:k], l.tolerance})
			}
		}
		wantCount(t, l, sum)
	})
}

func TestP148CountOfTheNextToleranceAndOfTheGreatest(t *testing.T) {
	greater := 0
	forEventLists(func(l eventLists) {
		count := countOf(t, l)
		if l.tolerance < biggest {
			next := countOf(t, l.within(l.tolerance+1))
			if next < count {
				t.Fatalf("%s returned %d, and for the next tolerance %d", l.call("MatchCount"), count, next)
			}
			if next > count {
				greater++
			}
		}
		wantCount(t, l.within(biggest), waysToChoose(len(l.a)+len(l.b), len(l.a)))
	})
	wantOften(t, greater, 1000)
}

func TestP149MostWithAnEventBehindTheSecondList(t *testing.T) {
	same, greater := 0, 0
	forEventLists(func(l eventLists) {
		most := mostOf(t, l)
		for _, size := range []int{1, 2, 3, 500, biggest} {
			longer := append(slices.Clone(l.b), event(0, size))
			if len(l.b) > 0 {
				longer[len(l.b)].Depth = l.b[len(l.b)-1].Depth + 1
			}
			if !isEvents(longer) {
				continue
			}
			switch further := mostOf(t, eventLists{l.a, longer, l.tolerance}); further {
			case most:
				same++
			case most + 1:
				greater++
			default:
				t.Fatalf("%s returned %d, and with an event of the size %d behind the second list %d", l.call("MatchMost"), most, size, further)
			}
		}
	})
	wantOften(t, same, 3000)
	wantOften(t, greater, 1000)
}

func TestP150MostOfTheFirstListDeeper(t *testing.T) {
	times := 0
	forEventLists(func(l eventLists) {
		if lower := deeper(l.a, 1); isEvents(lower) {
			times++
			wantMost(t, eventLists{lower, l.b, l.tolerance}, mostOf(t, l))
		}
	})
	wantOften(t, times, 2000)
}

func TestP151WithoutEventsInOneList(t *testing.T) {
	for _, list := range sampleEvents() {
		for _, tolerance := range []int{0, 1, 500, biggest} {
			wantMatchings(t, eventLists{list, nil, tolerance}, 1, equalRow(len(list), nobody))
			wantMatchings(t, eventLists{nil, list, tolerance}, 1, nil)
			wantMatchings(t, eventLists{[]impl.Event{}, list, tolerance}, 1, nil)
		}
	}
}

// asEvents returns numbers as events, as the memory checks tell all results as events.
func asEvents(numbers ...int) []impl.Event {
	return eventsAt(numbers, numbers)
}

// eventMemory has calls of all functions with a list as the first and as the second list, as both, and with both in one memory, with tolerances for which they succeed and fail.
func eventMemory(lists [][]impl.Event) memoryCheck[impl.Event] {
	calls := map[string]listCall[impl.Event]{"EventsValid": func(list []impl.Event) ([]impl.Event, bool) { return nil, impl.EventsValid(list) }}
	other := sized(2, 1, 3, 500, 2)
	for _, tolerance := range []int{-1, 0, 1, 7, biggest, biggest + 1} {
		for name, both := range twoLists(other) {
			name = " of " + name + " within " + strconv.Itoa(tolerance)
			calls["MatchOk"+name] = func(list []impl.Event) ([]impl.Event, bool) {
				a, b := both(list)
				return nil, impl.MatchOk(a, b, tolerance, steps(len(a), 0, 1))
			}
			calls["MatchMany"+name] = func(list []impl.Event) ([]impl.Event, bool) {
				a, b := both(list)
				return asEvents(impl.MatchMany(a, b, tolerance, steps(len(a), 0, 1))), true
			}
			calls["MatchMost and MatchCount"+name] = func(list []impl.Event) ([]impl.Event, bool) {
				a, b := both(list)
				return asEvents(impl.MatchMost(a, b, tolerance), impl.MatchCount(a, b, tolerance)), true
			}
			calls["MatchBest"+name] = func(list []impl.Event) ([]impl.Event, bool) {
				a, b := both(list)
				best, ok := impl.MatchBest(a, b, tolerance)
				return asEvents(best...), ok
			}
		}
	}
	return memoryCheck[impl.Event]{lists, calls, spoiledEvent, namedEvents}
}

// matchMemory has calls of the functions that take a matching, with lists of as many events or less.
func matchMemory(lists [][]int) memoryCheck[int] {
	calls := map[string]listCall[int]{}
	for number := range mostEvents + 1 {
		for _, b := range [][]impl.Event{alikeEvents(mostEvents, 5), alikeEvents(3, 5), sized(steps(mostEvents, 1, 1)...)} {
			name := fmt.Sprintf(" of %d events and %s", number, namedEvents(b))
			a := alikeEvents(number, 5)
			calls["MatchOk"+name] = func(list []int) ([]int, bool) { return nil, impl.MatchOk(a, b, 0, list) }
			calls["MatchMany"+name] = func(list []int) ([]int, bool) { return []int{impl.MatchMany(a, b, 0, list)}, true }
		}
	}
	return memoryCheck[int]{lists, calls, spoiledNumber, namedInts}
}

// matchLists are third lists of all lengths, matchings or not.
func matchLists() [][]int {
	list := slices.Concat([][]int{nil, {-2}, {0, 0}, {1, 0}, {0, -1, 0}, {math.MinInt, math.MaxInt}, {-1, 4, -1}}, thinned(pairings(mostEvents, mostEvents), 50))
	for number := range mostEvents + 3 {
		list = append(list, steps(number, 0, 1), equalRow(number, nobody), steps(number, number, -1))
	}
	return list
}

func TestEventFunctionsWriteNothing(t *testing.T) {
	eventMemory(slices.Concat(sampleEvents(), noEvents())).wantNothingWritten(t)
	matchMemory(matchLists()).wantNothingWritten(t)
}

func TestEventFunctionsShareNothing(t *testing.T) {
	eventMemory(slices.Concat(thinned(sampleEvents(), 100), thinned(noEvents(), 60))).wantNothingShared(t)
	matchMemory(matchLists()).wantNothingShared(t)
}

func TestEventFunctionsReadNothingBehindAList(t *testing.T) {
	eventMemory(slices.Concat(thinned(sampleEvents(), 100), thinned(noEvents(), 60))).wantNothingReadBehind(t)
	matchMemory(matchLists()).wantNothingReadBehind(t)
}

func TestMatchBestResultsShareNothing(t *testing.T) {
	forBestMatches(t, func(l eventLists, best []int) {
		wantApart(t, l.call("MatchBest"), spoiledNumber, func() []int {
			match, _ := impl.MatchBest(l.a, l.b, l.tolerance)
			return match
		})
	})
}
