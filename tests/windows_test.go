package tests

import (
	"fmt"
	"math"
	"math/rand/v2"
	"slices"
	"strconv"
	"testing"

	"loop.example/icecores/impl"
)

const (
	mostWindows = 12
	oldest      = 100000
)

// spoiledWindow is neither a window nor a step; the tests write it over memory that no function may use.
var spoiledWindow = window(-7, -8)

// anyWindow has all ages, and as a step all numbers of years.
var anyWindow = window(0, oldest)

func window(young int, old int) impl.Window {
	return impl.Window{Young: young, Old: old}
}

// only returns the window of a single age.
func only(age int) impl.Window {
	return window(age, age)
}

// windowsOf returns the windows with each two numbers of a list as Young and Old.
func windowsOf(numbers ...int) []impl.Window {
	return eachAs(curveOf(numbers...), func(k impl.Knot) impl.Window { return window(k.X, k.Y) })
}

// onlyAt returns a window of a single age for each age.
func onlyAt(ages ...int) []impl.Window {
	return eachAs(ages, only)
}

// equalWindows returns a number of equal windows or steps.
func equalWindows(number int, w impl.Window) []impl.Window {
	return slices.Repeat([]impl.Window{w}, number)
}

func youngOf(list []impl.Window) []int {
	return eachAs(list, func(w impl.Window) int { return w.Young })
}

func oldOf(list []impl.Window) []int {
	return eachAs(list, func(w impl.Window) int { return w.Old })
}

// widthOf returns the sum of the differences of Old and Young.
func widthOf(list []impl.Window) int {
	return sumOfAmounts(oldOf(list)) - sumOfAmounts(youngOf(list))
}

func namedWindows(list []impl.Window) string {
	return listText(list, 5*mostWindows, "windows", func(w impl.Window) string { return strconv.Itoa(w.Young) + "-" + strconv.Itoa(w.Old) })
}

// windowLists are windows and their steps, valid or not.
type windowLists struct {
	list, steps []impl.Window
}

// call returns the text of a call with both lists, and lists of ages.
func (l windowLists) call(name string, others ...[]int) string {
	s := name + "(" + namedWindows(l.list) + ", " + namedWindows(l.steps)
	for _, other := range others {
		s += ", " + namedInts(other)
	}
	return s + ")"
}

// withWindow returns the lists with another window at an index.
func (l windowLists) withWindow(i int, w impl.Window) windowLists {
	return windowLists{replaced(l.list, i, w), l.steps}
}

// withStep returns the lists with another step at an index.
func (l windowLists) withStep(i int, step impl.Window) windowLists {
	return windowLists{l.list, replaced(l.steps, i, step)}
}

// part returns the windows from one index up to, but not at, another one, and the steps between them.
func (l windowLists) part(first int, behind int) windowLists {
	return windowLists{l.list[first:behind], l.steps[first : behind-1]}
}

// older returns the lists with all windows some years older.
func (l windowLists) older(years int) windowLists {
	return windowLists{allOlder(l.list, years), l.steps}
}

func allOlder(list []impl.Window, years int) []impl.Window {
	return eachAs(list, func(w impl.Window) impl.Window { return window(w.Young+years, w.Old+years) })
}

// isIn tells whether an age is within a window, or a number of years within a step.
func isIn(w impl.Window, n int) bool {
	return n >= w.Young && n <= w.Old
}

func isWindow(w impl.Window) bool {
	return isIn(anyWindow, w.Young) && isIn(anyWindow, w.Old) && w.Old-w.Young >= 0
}

// isWindows tells by each window and step whether two lists are windows and steps.
func (l windowLists) isWindows() bool {
	none := func(w impl.Window) bool { return !isWindow(w) }
	return len(l.list) > 0 && len(l.list) <= mostWindows && len(l.list) == len(l.steps)+1 && !slices.ContainsFunc(l.list, none) && !slices.ContainsFunc(l.steps, none)
}

// areFitting tells whether ages fit windows and steps, if these are valid.
func (l windowLists) areFitting(ages []int) bool {
	if len(ages) != len(l.list) {
		return false
	}
	for i, w := range l.list {
		if !isIn(w, ages[i]) {
			return false
		}
	}
	for i, step := range l.steps {
		if !isIn(step, ages[i+1]-ages[i]) {
			return false
		}
	}
	return true
}

// agesAround returns all lists of an age for each window from some years below its Young to as many above its Old, one by one.
func (l windowLists) agesAround(years int) [][]int {
	all := [][]int{{}}
	for _, w := range l.list {
		longer := [][]int{}
		for _, ages := range all {
			for age := w.Young - years; age <= w.Old+years; age++ {
				longer = append(longer, append(slices.Clone(ages), age))
			}
		}
		all = longer
	}
	return all
}

// fitting returns all ages that fit, found one by one.
func (l windowLists) fitting() [][]int {
	return slices.DeleteFunc(l.agesAround(0), func(ages []int) bool { return !l.areFitting(ages) })
}

// windowsAround returns for each place the least and the greatest of lists of ages.
func windowsAround(all [][]int) []impl.Window {
	list := onlyAt(all[0]...)
	for _, ages := range all {
		for i, age := range ages {
			list[i] = window(min(list[i].Young, age), max(list[i].Old, age))
		}
	}
	return list
}

// exactTight tells the tight windows, and whether there are any, by the shortest ways from each age to each other one and to the age 0, each way as long as the one age is at most greater than the other one.
func (l windowLists) exactTight() ([]impl.Window, bool) {
	zero := len(l.list)
	most := make([][]int, zero+1)
	for i := range most {
		most[i] = equalRow(zero+1, 1<<40)
		most[i][i] = 0
	}
	for i, w := range l.list {
		most[zero][i], most[i][zero] = w.Old, -w.Young
	}
	for i, step := range l.steps {
		most[i][i+1], most[i+1][i] = step.Old, -step.Young
	}
	for via := range most {
		for i := range most {
			for k := range most {
				most[i][k] = min(most[i][k], most[i][via]+most[via][k])
			}
		}
	}
	list := []impl.Window{}
	for i := range most {
		if most[i][i] < 0 {
			return nil, false
		}
		if i < zero {
			list = append(list, window(-most[i][zero], most[zero][i]))
		}
	}
	return list, true
}

// tooGreat tells whether a step is too great for the windows at its ends, whatever the others.
func (l windowLists) tooGreat(i int) bool {
	return l.list[i].Young+l.steps[i].Young > l.list[i+1].Old
}

// tooSmall tells whether a step is too small for the windows at its ends, whatever the others.
func (l windowLists) tooSmall(i int) bool {
	return l.list[i].Old+l.steps[i].Old < l.list[i+1].Young
}

// windowsWithin returns all windows with ages from a first to a last one.
func windowsWithin(first int, last int) []impl.Window {
	list := []impl.Window{}
	for young := first; young <= last; young++ {
		for old := young; old <= last; old++ {
			list = append(list, window(young, old))
		}
	}
	return list
}

// allLists returns all lists of a number of windows of some choices, with all steps of others.
func allLists(number int, windows []impl.Window, steps []impl.Window) []windowLists {
	all := []windowLists{}
	for _, w := range windows {
		if number == 1 {
			all = append(all, windowLists{list: []impl.Window{w}})
			continue
		}
		for _, l := range allLists(number-1, windows, steps) {
			for _, step := range steps {
				all = append(all, windowLists{append(slices.Clone(l.list), w), append(slices.Clone(l.steps), step)})
			}
		}
	}
	return all
}

// shortWindows are short lists of narrow windows at both ends of the range, so that all their ages can be looked at.
func shortWindows() []windowLists {
	few := windowsWithin(0, 2)
	return slices.Concat(
		allLists(1, windowsWithin(0, 4), nil), allLists(1, windowsWithin(oldest-3, oldest), nil),
		allLists(2, windowsWithin(0, 3), windowsWithin(0, 3)), allLists(2, windowsWithin(oldest-2, oldest), few),
		allLists(2, slices.Concat(windowsWithin(0, 1), windowsWithin(oldest-1, oldest)), slices.Concat(windowsWithin(0, 1), windowsWithin(oldest-1, oldest), []impl.Window{anyWindow})),
		allLists(3, few, few), allLists(3, windowsWithin(oldest-1, oldest), few), allLists(3, windowsOf(0, 0, 0, 5, 3, 4, 5, 9), windowsOf(0, 0, 0, 4, 1, 2, 3, 3)),
		allLists(4, windowsOf(0, 1, 0, 5, 2, 3, 4, 5), windowsOf(0, 1, 1, 1, 1, 3)),
	)
}

// farWindows reach from end to end, in one step or in several ones.
func farWindows() []windowLists {
	ends := windowsOf(0, 0, 0, 1, 0, oldest, 50000, 50001, oldest-1, oldest, oldest, oldest)
	steps := windowsOf(0, 0, 0, 1, 0, oldest, 49999, 50000, oldest-1, oldest, oldest, oldest)
	return slices.Concat(allLists(1, ends, nil), allLists(2, ends, steps), thinned(allLists(3, ends, steps), 2500))
}

// longWindows have as many windows as are allowed or one less, are wide and narrow, and tightened by one that is far above or below.
func longWindows() []windowLists {
	list := []windowLists{}
	for _, number := range []int{mostWindows - 1, mostWindows} {
		wide := equalWindows(number, anyWindow)
		for _, step := range windowsOf(0, 0, 0, oldest, 1, 1, 1, 2, 0, 7, 5, 9, 9000, 9100, 0, 9090, 9090, 9091, 9091, oldest, 10000, 10000) {
			l := windowLists{wide, equalWindows(number-1, step)}
			list = append(list, l, windowLists{equalWindows(number, window(500, 560)), l.steps})
			for _, i := range []int{0, 1, number / 2, number - 1} {
				for _, w := range windowsOf(0, 0, 40, 60, 77000, 77700, oldest, oldest) {
					list = append(list, l.withWindow(i, w))
				}
			}
		}
		for i := range number - 1 {
			l := windowLists{wide, equalWindows(number-1, only(0))}
			list = append(list, l.withStep(i, only(oldest)), l.withStep(i, window(1, 7)), l.withStep(i, window(0, oldest)).withWindow(0, only(3)).withWindow(number-1, window(8, 9)))
		}
	}
	return list
}

// mixedWindows are windows of every number around ages that fit their steps, or nearly fit.
func mixedWindows(rounds int) []windowLists {
	r := rand.New(rand.NewPCG(22, 185))
	list := []windowLists{}
	around := func(n int, most int) impl.Window {
		young, old := max(0, n-r.IntN(most+1)), min(oldest, n+r.IntN(most+1))
		return window(young, old)
	}
	for round := range rounds {
		for number := 1; number <= mostWindows; number++ {
			l := windowLists{}
			last, years := 0, []int{3, 100, oldest / mostWindows}[round%3]
			most, mostStep := []int{0, 1, 5, 200, 9000}[r.IntN(5)], []int{0, 1, 5, 200, 9000}[r.IntN(5)]
			for i := range number {
				n := r.IntN(years + 1)
				if i > 0 {
					l.steps = append(l.steps, around(n, mostStep))
				}
				last += n
				w := around(last, most)
				if r.IntN(4) == 0 {
					w = around(last, 30*most)
				}
				l.list = append(l.list, w)
			}
			list = append(list, l)
			if number > 1 {
				i, years := r.IntN(number-1), 1+r.IntN(most+mostStep+1)
				list = append(list, l.withStep(i, window(min(oldest, l.steps[i].Young+years), min(oldest, l.steps[i].Old+years))))
			}
		}
	}
	return list
}

// sampleWindows are all these.
func sampleWindows() []windowLists {
	return slices.Concat(shortWindows(), farWindows(), longWindows(), mixedWindows(90))
}

// agesOutside are no ages: next to both ends of their range, and at those of int.
func agesOutside() []int {
	return []int{-1, -2, -oldest, -oldest - 1, -1 << 32, math.MinInt + 1, math.MinInt, oldest + 1, oldest + 2, 2 * oldest, 1 << 32, 1<<32 + 5, math.MaxInt - 1, math.MaxInt}
}

// badWindows are neither windows nor steps: one end or both are out of range, or Old is less than Young.
func badWindows() []impl.Window {
	list := windowsOf(1, 0, oldest, oldest-1, oldest, 0, 5, 4, 60, 40, math.MaxInt, math.MinInt, math.MinInt, math.MaxInt, -1, oldest+1, oldest+1, -1, spoiledWindow.Young, spoiledWindow.Old)
	for _, n := range agesOutside() {
		list = append(list, window(n, n), window(n, 0), window(n, 5), window(n, oldest), window(0, n), window(5, n), window(oldest, n))
	}
	return list
}

// noWindows break each condition of windows and steps, at each place of both lists.
func noWindows() []windowLists {
	list := []windowLists{{}, {[]impl.Window{}, []impl.Window{}}, {nil, []impl.Window{anyWindow}}, {nil, equalWindows(mostWindows-1, only(0))}}
	for number := 1; number <= mostWindows; number++ {
		wide := equalWindows(number, anyWindow)
		for _, wrong := range []int{0, 1, number - 2, number, number + 1, 2 * number, 1000} {
			if wrong >= 0 && wrong != number-1 {
				list = append(list, windowLists{wide, equalWindows(wrong, only(0))}, windowLists{wide, equalWindows(wrong, anyWindow)})
			}
		}
	}
	for _, number := range []int{mostWindows + 1, mostWindows + 2, 2 * mostWindows, 1000} {
		for _, steps := range []int{0, mostWindows - 1, mostWindows, number - 1, number} {
			list = append(list, windowLists{equalWindows(number, anyWindow), equalWindows(steps, only(0))})
		}
	}
	for _, l := range []windowLists{
		{windowsOf(5, 9), nil}, {windowsOf(0, 100, 40, 60, 0, 65), windowsOf(10, 20, 15, 30)},
		{equalWindows(2, anyWindow), equalWindows(1, anyWindow)}, {equalWindows(mostWindows, anyWindow), equalWindows(mostWindows-1, only(3))}, {equalWindows(mostWindows, anyWindow), equalWindows(mostWindows-1, anyWindow)},
	} {
		for _, w := range badWindows() {
			for i := range l.list {
				list = append(list, l.withWindow(i, w))
			}
			for i := range l.steps {
				list = append(list, l.withStep(i, w))
			}
		}
	}
	return list
}

func wantWindowsValid(t *testing.T, l windowLists, want bool) {
	t.Helper()
	if got := impl.WindowsValid(l.list, l.steps); got != want {
		t.Fatalf("%s returned %t", l.call("WindowsValid"), got)
	}
}

func wantWindowsFit(t *testing.T, l windowLists, ages []int, want bool) {
	t.Helper()
	if got := impl.WindowsFit(l.list, l.steps, ages); got != want {
		t.Fatalf("%s returned %t", l.call("WindowsFit", ages), got)
	}
}

func wantTight(t *testing.T, l windowLists, want []impl.Window, wantOk bool) {
	t.Helper()
	if got, ok := impl.WindowsTight(l.list, l.steps); !slices.Equal(got, want) || ok != wantOk {
		t.Fatalf("%s returned %s, %t, not %s, %t", l.call("WindowsTight"), namedWindows(got), ok, namedWindows(want), wantOk)
	}
}

// tightAges is a function that tells ages of windows and steps.
type tightAges func(list []impl.Window, steps []impl.Window) ([]int, bool)

func wantTightAges(t *testing.T, name string, ages tightAges, l windowLists, want []int, wantOk bool) {
	t.Helper()
	if got, ok := ages(l.list, l.steps); !slices.Equal(got, want) || ok != wantOk {
		t.Fatalf("%s returned %s, %t, not %s, %t", l.call(name), namedInts(got), ok, namedInts(want), wantOk)
	}
}

func wantYoung(t *testing.T, l windowLists, want []int, wantOk bool) {
	t.Helper()
	wantTightAges(t, "WindowsYoung", impl.WindowsYoung, l, want, wantOk)
}

func wantOld(t *testing.T, l windowLists, want []int, wantOk bool) {
	t.Helper()
	wantTightAges(t, "WindowsOld", impl.WindowsOld, l, want, wantOk)
}

func wantWide(t *testing.T, l windowLists, want int) {
	t.Helper()
	wantNumber(t, l.call("WindowsWide"), impl.WindowsWide(l.list, l.steps), want)
}

// wantAllTight checks what all functions tell of windows that ages fit.
func wantAllTight(t *testing.T, l windowLists, want []impl.Window) {
	t.Helper()
	wantWindowsValid(t, l, true)
	wantTight(t, l, want, true)
	wantYoung(t, l, youngOf(want), true)
	wantOld(t, l, oldOf(want), true)
	wantWide(t, l, widthOf(want))
}

// agesToTry are ages at the ends of windows, and others that some lists that are no windows and steps have in each of their ranges.
func (l windowLists) agesToTry() [][]int {
	number := len(l.list)
	return [][]int{nil, {0}, equalRow(number, 0), equalRow(number, 5), equalRow(number, 50), equalRow(number, oldest), steps(number, 0, 5), steps(number, 20, 20), youngOf(l.list), oldOf(l.list)}
}

// wantNothingTight checks that all functions but WindowsValid tell that no ages fit.
func wantNothingTight(t *testing.T, l windowLists) {
	t.Helper()
	wantTight(t, l, nil, false)
	wantYoung(t, l, nil, false)
	wantOld(t, l, nil, false)
	wantWide(t, l, -1)
	for _, ages := range l.agesToTry() {
		wantWindowsFit(t, l, ages, false)
	}
}

func wantNoAgesFit(t *testing.T, l windowLists) {
	t.Helper()
	wantWindowsValid(t, l, true)
	wantNothingTight(t, l)
}

func wantNoWindows(t *testing.T, l windowLists) {
	t.Helper()
	wantWindowsValid(t, l, false)
	wantNothingTight(t, l)
}

// tightOf returns WindowsTight, which must not fail.
func tightOf(t *testing.T, l windowLists) []impl.Window {
	t.Helper()
	got, ok := impl.WindowsTight(l.list, l.steps)
	if !ok || len(got) != len(l.list) {
		t.Fatalf("%s returned %s, %t", l.call("WindowsTight"), namedWindows(got), ok)
	}
	return got
}

// wantNotNarrower checks that WindowsTight succeeds, and each window of it has all ages of another one.
func wantNotNarrower(t *testing.T, l windowLists, than []impl.Window) {
	t.Helper()
	for i, w := range tightOf(t, l) {
		if w.Young > than[i].Young || w.Old < than[i].Old {
			t.Fatalf("%s is narrower than %s", l.call("WindowsTight"), namedWindows(than))
		}
	}
}

// forTight calls a check with each of the sample windows for which WindowsTight succeeds, and its result.
func forTight(t *testing.T, check func(l windowLists, tight []impl.Window)) {
	t.Helper()
	times := 0
	for _, l := range sampleWindows() {
		if tight, ok := impl.WindowsTight(l.list, l.steps); ok {
			times++
			check(l, tight)
		}
	}
	wantOften(t, times, 7000)
}

// forFitting calls a check with each of the sample windows and some ages for which WindowsFit holds.
func forFitting(t *testing.T, check func(l windowLists, ages []int)) {
	t.Helper()
	times := 0
	checkFitting := func(l windowLists, ages []int) {
		if impl.WindowsFit(l.list, l.steps, ages) {
			times++
			check(l, ages)
		}
	}
	for _, l := range shortWindows() {
		if widthOf(l.list) <= 12 {
			for _, ages := range l.agesAround(0) {
				checkFitting(l, ages)
			}
		}
	}
	r := rand.New(rand.NewPCG(22, 170))
	for _, l := range slices.Concat(farWindows(), longWindows(), mixedWindows(60)) {
		tight, ok := l.exactTight()
		if !ok {
			continue
		}
		for range 5 {
			checkFitting(l, someAges(l, tight, r))
		}
	}
	wantOften(t, times, 20000)
}

// someAges returns ages that fit, each one chosen of those that the one ahead leaves.
func someAges(l windowLists, tight []impl.Window, r *rand.Rand) []int {
	ages := []int{}
	for i, w := range tight {
		if i > 0 {
			w = window(max(w.Young, ages[i-1]+l.steps[i-1].Young), min(w.Old, ages[i-1]+l.steps[i-1].Old))
		}
		ages = append(ages, []int{w.Young, w.Old, w.Young + r.IntN(w.Old-w.Young+1)}[r.IntN(3)])
	}
	return ages
}

// fewAges returns some ages of a window: both ends, the ages next to them, and others between.
func fewAges(w impl.Window) []int {
	ages := slices.DeleteFunc([]int{w.Young, w.Young + 1, (w.Young + w.Old) / 2, w.Old - 1, w.Old}, func(age int) bool { return !isIn(w, age) })
	slices.Sort(ages)
	return slices.Compact(ages)
}

func TestWindowsMaxAndAgeMax(t *testing.T) {
	if impl.WindowsMax != mostWindows || impl.AgeMax != oldest {
		t.Errorf("WindowsMax is %d, and AgeMax %d", impl.WindowsMax, impl.AgeMax)
	}
}

func TestWindowsValidExamples(t *testing.T) {
	for _, l := range []windowLists{
		{windowsOf(0, 0), nil}, {windowsOf(0, 0), []impl.Window{}}, {windowsOf(0, oldest), nil}, {windowsOf(oldest, oldest), nil}, {windowsOf(5, 5), nil}, {windowsOf(5, 6), nil},
		{windowsOf(0, 100, 40, 60, 0, 65), windowsOf(10, 20, 15, 30)}, {windowsOf(5, 9, 5, 9), windowsOf(0, 0)}, {windowsOf(5, 9, 5, 9), windowsOf(0, oldest)}, {windowsOf(5, 9, 5, 9), windowsOf(oldest, oldest)}, {windowsOf(7, 7, 3, 3), windowsOf(5, 5)},
		{equalWindows(mostWindows-1, only(4)), equalWindows(mostWindows-2, only(3))}, {equalWindows(mostWindows, only(oldest)), equalWindows(mostWindows-1, only(oldest))}, {equalWindows(mostWindows, anyWindow), equalWindows(mostWindows-1, anyWindow)},
	} {
		wantWindowsValid(t, l, true)
	}
	for _, l := range sampleWindows() {
		wantWindowsValid(t, l, true)
	}
	for _, l := range []windowLists{
		{}, {nil, windowsOf(0, 0)}, {windowsOf(5, 9), windowsOf(0, 0)}, {windowsOf(5, 9, 5, 9), nil}, {windowsOf(5, 9, 5, 9), windowsOf(0, 0, 0, 0)}, {windowsOf(5, 9, 5, 9, 5, 9), windowsOf(0, 0)},
		{windowsOf(-1, 5), nil}, {windowsOf(5, oldest+1), nil}, {windowsOf(5, 4), nil}, {windowsOf(oldest+1, oldest+1), nil}, {windowsOf(-1, -1), nil}, {windowsOf(math.MinInt, 5), nil}, {windowsOf(5, math.MinInt), nil}, {windowsOf(math.MaxInt, 5), nil}, {windowsOf(5, math.MaxInt), nil},
		{windowsOf(5, 9, 5, 9), windowsOf(-1, 5)}, {windowsOf(5, 9, 5, 9), windowsOf(5, oldest+1)}, {windowsOf(5, 9, 5, 9), windowsOf(5, 4)}, {windowsOf(5, 9, 5, 9), windowsOf(math.MinInt, 5)}, {windowsOf(5, 9, 5, 9), windowsOf(5, math.MinInt)}, {windowsOf(5, 9, 5, 9), windowsOf(math.MaxInt, 5)}, {windowsOf(5, 9, 5, 9), windowsOf(5, math.MaxInt)},
		{equalWindows(mostWindows+1, anyWindow), equalWindows(mostWindows, anyWindow)}, {equalWindows(mostWindows+1, anyWindow), equalWindows(mostWindows-1, anyWindow)}, {equalWindows(mostWindows, anyWindow), equalWindows(mostWindows, anyWindow)}, {equalWindows(mostWindows, anyWindow), equalWindows(mostWindows-2, anyWindow)},
	} {
		wantWindowsValid(t, l, false)
	}
}

// TestEveryYoungAndOld has each two of numbers at, next to and beyond both ends of the range as a window and as a step.
func TestEveryYoungAndOld(t *testing.T) {
	numbers := append(agesOutside(), 0, 1, 5, 50000, oldest-1, oldest)
	valid := 0
	for _, young := range numbers {
		for _, old := range numbers {
			w := window(young, old)
			all := []windowLists{
				{[]impl.Window{w}, nil}, {[]impl.Window{w, anyWindow}, []impl.Window{anyWindow}}, {[]impl.Window{anyWindow, w}, []impl.Window{anyWindow}}, {equalWindows(2, anyWindow), []impl.Window{w}},
				{[]impl.Window{anyWindow, w, anyWindow}, equalWindows(2, anyWindow)}, {equalWindows(3, anyWindow), []impl.Window{w, anyWindow}}, {equalWindows(3, anyWindow), []impl.Window{anyWindow, w}},
			}
			if isWindow(w) {
				valid++
			}
			for _, l := range all {
				if !isWindow(w) {
					wantNoWindows(t, l)
					continue
				}
				want, ok := l.exactTight()
				if !ok {
					t.Fatalf("%s: no ages fit", l.call("the test"))
				}
				wantAllTight(t, l, want)
			}
		}
	}
	wantNumber(t, "the number of windows", valid, 6+5+4+3+2+1)
}

func TestEveryShortListOfWindows(t *testing.T) {
	choices := slices.Concat(windowsWithin(0, 1), windowsOf(-1, 0, 1, 0, oldest, oldest, oldest, oldest+1, oldest+1, oldest))
	valid := 0
	for number := 1; number <= 3; number++ {
		for _, l := range allLists(number, choices, choices[:5]) {
			wantWindowsValid(t, l, l.isWindows())
			if l.isWindows() {
				valid++
			}
		}
	}
	wantNumber(t, "the number of valid lists", valid, 4+4*4*3+4*4*4*3*3)
}

func TestEveryNumberOfWindowsAndSteps(t *testing.T) {
	for number := range 2*mostWindows + 2 {
		for steps := range 2*mostWindows + 2 {
			l := windowLists{equalWindows(number, window(5, 9)), equalWindows(steps, only(0))}
			if number >= 1 && number <= mostWindows && steps == number-1 {
				wantAllTight(t, l, l.list)
			} else {
				wantNoWindows(t, l)
			}
		}
	}
}

func TestNoWindows(t *testing.T) {
	none := noWindows()
	badWindow, badStep := 0, 0
	for _, l := range none {
		if l.isWindows() {
			t.Fatalf("%s: these are windows", l.call("the test"))
		}
		wantNoWindows(t, l)
		if len(l.steps) == len(l.list)-1 && slices.ContainsFunc(l.agesToTry(), l.areFitting) {
			if slices.ContainsFunc(l.steps, func(step impl.Window) bool { return !isWindow(step) }) {
				badStep++
			} else {
				badWindow++
			}
		}
	}
	wantOften(t, len(none), 4000)
	// The ranges alone are wrong here, as the ages are within all of them.
	wantOften(t, badWindow, 300)
	wantOften(t, badStep, 300)
}

func TestWindowsFitExamples(t *testing.T) {
	l := windowLists{windowsOf(0, 100, 40, 60, 0, 65), windowsOf(10, 20, 15, 30)}
	for _, ages := range [][]int{{20, 40, 55}, {40, 50, 65}, {30, 40, 55}, {25, 45, 60}, {35, 50, 65}, {20, 40, 65}} {
		wantWindowsFit(t, l, ages, true)
	}
	for _, ages := range [][]int{
		{19, 40, 55}, {31, 40, 55}, {20, 39, 55}, {20, 41, 55}, {20, 40, 54}, {41, 50, 65}, {40, 49, 65}, {40, 51, 65}, {40, 50, 66}, {40, 50, 64}, {20, 40, 71}, {55, 65, 80},
		nil, {}, {20}, {20, 40}, {20, 40, 55, 70}, {40, 55}, {0, 20, 40, 55}, {55, 40, 20}, {20, 20, 20}, {-20, -40, -55}, {math.MinInt, 40, 55}, {20, math.MinInt, 55}, {20, 40, math.MinInt}, {math.MaxInt, 40, 55}, {20, math.MaxInt, 55}, {20, 40, math.MaxInt}, {math.MaxInt, math.MinInt, math.MaxInt}, {math.MinInt, math.MaxInt, 55},
	} {
		wantWindowsFit(t, l, ages, false)
	}
	for _, single := range []windowLists{{windowsOf(5, 9), nil}, {windowsOf(5, 9), []impl.Window{}}} {
		for age := 3; age <= 11; age++ {
			wantWindowsFit(t, single, []int{age}, age >= 5 && age <= 9)
		}
		wantWindowsFit(t, single, nil, false)
		wantWindowsFit(t, single, []int{5, 5}, false)
	}
	wide := windowLists{equalWindows(mostWindows, anyWindow), equalWindows(mostWindows-1, window(0, oldest))}
	for _, ages := range [][]int{equalRow(mostWindows, 0), equalRow(mostWindows, oldest), equalRow(mostWindows, 777), steps(mostWindows, 0, 9090), stepRow(5, 0, mostWindows-5, oldest)} {
		wantWindowsFit(t, wide, ages, true)
		wantWindowsFit(t, wide, ages[1:], false)
		wantWindowsFit(t, wide, append(slices.Clone(ages), oldest), false)
	}
	for _, ages := range [][]int{peakRow(mostWindows, 3, 1), steps(mostWindows, 0, 9091), steps(mostWindows, oldest, -1), equalRow(mostWindows, -1), equalRow(mostWindows, oldest+1)} {
		wantWindowsFit(t, wide, ages, false)
	}
}

// TestWindowsFitIsExact looks at all ages within and next to short windows.
func TestWindowsFitIsExact(t *testing.T) {
	fit, other := 0, 0
	for _, l := range shortWindows() {
		if widthOf(l.list) > 12 {
			continue
		}
		for _, ages := range l.agesAround(1) {
			want := l.areFitting(ages)
			wantWindowsFit(t, l, ages, want)
			if want {
				fit++
			} else {
				other++
			}
		}
	}
	wantOften(t, fit, 10000)
	wantOften(t, other, 100000)
}

// TestWindowsFitNearFittingAges has ages of which each one in turn is one less, one more, or no age at all, and lists that are too short or too long.
func TestWindowsFitNearFittingAges(t *testing.T) {
	still, times := 0, 0
	forFitting(t, func(l windowLists, ages []int) {
		if !l.areFitting(ages) {
			t.Fatalf("%s returned true", l.call("WindowsFit", ages))
		}
		for i, age := range ages {
			for _, other := range []int{age - 1, age + 1} {
				changed := replaced(ages, i, other)
				want := l.areFitting(changed)
				wantWindowsFit(t, l, changed, want)
				times++
				if want {
					still++
				}
			}
			for _, other := range agesOutside() {
				wantWindowsFit(t, l, replaced(ages, i, other), false)
			}
			wantWindowsFit(t, l, ages[:i], false)
			wantWindowsFit(t, l, ages[i+1:], false)
			wantWindowsFit(t, l, slices.Insert(slices.Clone(ages), i, age), false)
		}
		for _, more := range []int{0, ages[len(ages)-1], oldest, -1, math.MaxInt} {
			wantWindowsFit(t, l, append(slices.Clone(ages), more), false)
		}
	})
	wantOften(t, still, 10000)
	wantOften(t, times-still, 10000)
}

func TestWindowsTightExamples(t *testing.T) {
	for _, e := range []struct {
		l    windowLists
		want []impl.Window
	}{
		{windowLists{windowsOf(0, 100, 40, 60, 0, 65), windowsOf(10, 20, 15, 30)}, windowsOf(20, 40, 40, 50, 55, 65)},
		// A single window, and windows that are tight already.
		{windowLists{windowsOf(5, 9), nil}, windowsOf(5, 9)}, {windowLists{windowsOf(0, oldest), nil}, windowsOf(0, oldest)}, {windowLists{windowsOf(5, 9, 5, 9), windowsOf(0, 4)}, windowsOf(5, 9, 5, 9)}, {windowLists{windowsOf(5, 9, 7, 12), windowsOf(2, 3)}, windowsOf(5, 9, 7, 12)},
		// The higher window tightens the deeper one, in its Young, its Old, or both, and the other way round.
		{windowLists{windowsOf(5, 9, 0, 12), windowsOf(2, 3)}, windowsOf(5, 9, 7, 12)}, {windowLists{windowsOf(5, 9, 7, 99), windowsOf(2, 3)}, windowsOf(5, 9, 7, 12)}, {windowLists{windowsOf(5, 9, 0, oldest), windowsOf(2, 3)}, windowsOf(5, 9, 7, 12)},
		{windowLists{windowsOf(0, 9, 7, 12), windowsOf(2, 2)}, windowsOf(5, 9, 7, 11)}, {windowLists{windowsOf(5, 99, 7, 12), windowsOf(2, 3)}, windowsOf(5, 10, 7, 12)}, {windowLists{windowsOf(0, oldest, 7, 12), windowsOf(2, 3)}, windowsOf(4, 10, 7, 12)},
		// Both one another.
		{windowLists{windowsOf(0, 10, 5, 20), windowsOf(0, 3)}, windowsOf(2, 10, 5, 13)}, {windowLists{windowsOf(0, 10, 5, 12), windowsOf(4, oldest)}, windowsOf(0, 8, 5, 12)},
		// One way alone: by windows, by steps, and by both ends.
		{windowLists{onlyAt(3, 5, 9), windowsOf(2, 2, 4, 4)}, onlyAt(3, 5, 9)}, {windowLists{windowsOf(0, 7, 7, 20), windowsOf(0, 0)}, onlyAt(7, 7)}, {windowLists{windowsOf(0, 7, 0, 20, 15, 20), windowsOf(4, 4, 4, 4)}, onlyAt(7, 11, 15)}, {windowLists{windowsOf(3, 9, 0, 50, 0, 11), windowsOf(4, 9, 4, 9)}, onlyAt(3, 7, 11)},
		{windowLists{[]impl.Window{anyWindow, anyWindow}, windowsOf(oldest, oldest)}, onlyAt(0, oldest)}, {windowLists{[]impl.Window{anyWindow, anyWindow, anyWindow}, windowsOf(oldest, oldest, 0, 5)}, onlyAt(0, oldest, oldest)},
		// Steps of no years, and of any number of them.
		{windowLists{windowsOf(0, 10, 5, 20, 7, 9), windowsOf(0, 0, 0, 0)}, windowsOf(7, 9, 7, 9, 7, 9)}, {windowLists{windowsOf(5, 20, 0, 10), windowsOf(0, oldest)}, windowsOf(5, 10, 5, 10)}, {windowLists{windowsOf(0, 10, 5, 20), windowsOf(0, oldest)}, windowsOf(0, 10, 5, 20)},
		{windowLists{windowsOf(8, 30, 5, 20, 0, 9), windowsOf(0, oldest, 0, oldest)}, windowsOf(8, 9, 8, 9, 8, 9)},
		// Across several steps, downward, upward, and from the middle.
		{windowLists{windowsOf(5, 6, 0, 99, 0, 99, 0, 99), windowsOf(1, 2, 3, 3, 0, 4)}, windowsOf(5, 6, 6, 8, 9, 11, 9, 15)}, {windowLists{windowsOf(0, 99, 0, 99, 0, 99, 60, 62), windowsOf(1, 2, 3, 3, 0, 4)}, windowsOf(51, 58, 53, 59, 56, 62, 60, 62)}, {windowLists{windowsOf(0, 99, 30, 31, 0, 99, 0, 99), windowsOf(1, 2, 3, 3, 0, 4)}, windowsOf(28, 30, 30, 31, 33, 34, 33, 38)},
		{windowLists{windowsOf(0, 99, 0, 99, 0, 99, 0, 99), windowsOf(10, 99, 20, 99, 30, 99)}, windowsOf(0, 39, 10, 49, 30, 69, 60, 99)},
		{windowLists{equalWindows(mostWindows, anyWindow), equalWindows(mostWindows-1, only(9090))}, []impl.Window{window(0, 10), window(9090, 9100), window(18180, 18190), window(27270, 27280), window(36360, 36370), window(45450, 45460), window(54540, 54550), window(63630, 63640), window(72720, 72730), window(81810, 81820), window(90900, 90910), window(99990, oldest)}},
	} {
		wantAllTight(t, e.l, e.want)
	}
}

func TestWindowsThatNoAgesFit(t *testing.T) {
	for _, l := range []windowLists{
		// A step is too great, or too small, by one year and by many.
		{windowsOf(5, 9, 7, 12), windowsOf(8, 9)}, {windowsOf(5, 9, 7, 12), windowsOf(8, oldest)}, {windowsOf(0, oldest, 0, oldest-1), windowsOf(oldest, oldest)}, {windowsOf(1, oldest, 0, oldest), windowsOf(oldest, oldest)}, {windowsOf(oldest, oldest, oldest, oldest), windowsOf(1, 1)}, {windowsOf(oldest, oldest, 0, oldest), windowsOf(oldest, oldest)}, {windowsOf(9, 12, 5, 8), windowsOf(0, oldest)}, {windowsOf(1, 1, 0, 0), windowsOf(0, 0)},
		{windowsOf(5, 9, 13, 20), windowsOf(0, 3)}, {windowsOf(5, 9, 13, 20), windowsOf(3, 3)}, {windowsOf(0, 0, oldest, oldest), windowsOf(0, oldest-1)}, {windowsOf(0, 0, 1, 1), windowsOf(0, 0)}, {windowsOf(0, 0, oldest, oldest), windowsOf(0, 0)}, {windowsOf(5, 9, 10, 12), windowsOf(0, 0)},
		// The same at the first, the second and the last step.
		{windowsOf(5, 9, 7, 12, 0, 99), windowsOf(8, 9, 0, 99)}, {windowsOf(0, 99, 5, 9, 7, 12), windowsOf(0, 99, 8, 9)}, {windowsOf(5, 9, 13, 20, 0, 99, 0, 99), windowsOf(0, 3, 0, 99, 0, 99)}, {windowsOf(0, 99, 5, 9, 13, 20, 0, 99), windowsOf(0, 99, 0, 3, 0, 99)}, {windowsOf(0, 99, 0, 99, 5, 9, 13, 20), windowsOf(0, 99, 0, 99, 0, 3)},
		// Each two windows have ages that fit, but not all together.
		{windowsOf(0, 100, 40, 60, 0, 50), windowsOf(10, 20, 15, 30)}, {windowsOf(5, 9, 0, 99, 6, 10), windowsOf(3, 4, 3, 4)}, {windowsOf(5, 9, 0, 99, 18, 20), windowsOf(3, 4, 3, 4)}, {windowsOf(7, 7, 0, 99, 8, 8), windowsOf(0, 0, 0, 0)}, {windowsOf(8, 8, 0, 99, 7, 7), windowsOf(0, 99, 0, 99)},
		{windowsOf(5, 9, 0, 99, 0, 99, 0, 99, 6, 16), windowsOf(3, 4, 3, 4, 3, 4, 3, 4)}, {windowsOf(5, 9, 0, 99, 0, 99, 0, 99, 26, 30), windowsOf(3, 4, 3, 4, 3, 4, 3, 4)}, {windowsOf(0, 99, 5, 9, 0, 99, 6, 10, 0, 99), windowsOf(0, 99, 3, 4, 3, 4, 0, 99)},
		{equalWindows(mostWindows, anyWindow), equalWindows(mostWindows-1, window(9091, oldest))}, {equalWindows(3, anyWindow), windowsOf(50000, 50000, 50001, 50001)}, {equalWindows(3, anyWindow), windowsOf(oldest, oldest, oldest, oldest)}, {equalWindows(mostWindows, anyWindow), equalWindows(mostWindows-1, only(oldest))},
		// A window behind would have ages again, if those without any were forgotten.
		{windowsOf(5, 5, 0, 4, 0, 99), windowsOf(0, 99, 0, 99)}, {windowsOf(0, 99, 0, 4, 5, 5), windowsOf(0, 99, 0, 0)}, {windowsOf(0, 0, 5, 5, 0, 0), windowsOf(0, 0, 0, 99)}, {windowsOf(0, 0, 9, 99, 0, 99, 0, 99), windowsOf(0, 3, 0, 99, 0, 99)},
	} {
		wantNoAgesFit(t, l)
	}
	for _, l := range []windowLists{{equalWindows(mostWindows, anyWindow), equalWindows(mostWindows-1, window(9090, oldest))}, {equalWindows(3, anyWindow), windowsOf(50000, 50000, 50000, 50000)}, {windowsOf(5, 9, 0, 99, 6, 11), windowsOf(3, 4, 3, 4)}, {windowsOf(5, 9, 0, 99, 17, 20), windowsOf(3, 4, 3, 4)}} {
		want, ok := l.exactTight()
		if !ok {
			t.Fatalf("%s: no ages fit", l.call("the test"))
		}
		wantAllTight(t, l, want)
	}
}

// TestTightIsExact compares with all ages of short and narrow windows, one by one.
func TestTightIsExact(t *testing.T) {
	some, none := 0, 0
	for _, l := range shortWindows() {
		all := l.fitting()
		if len(all) == 0 {
			wantNoAgesFit(t, l)
			none++
			continue
		}
		want := windowsAround(all)
		wantAllTight(t, l, want)
		wantWindowsFit(t, l, youngOf(want), true)
		wantWindowsFit(t, l, oldOf(want), true)
		some++
	}
	wantOften(t, some, 5000)
	wantOften(t, none, 5000)
}

// TestTightOfSampleWindowsIsExact compares with a second way, and counts what kinds of windows there are.
func TestTightOfSampleWindowsIsExact(t *testing.T) {
	times := map[string]int{}
	count := func(kind string, is bool) {
		if is {
			times[kind]++
		}
	}
	for _, l := range sampleWindows() {
		number := len(l.list)
		tight, ok := l.exactTight()
		if !ok {
			wantNoAgesFit(t, l)
			great, small := slices.ContainsFunc(steps(number-1, 0, 1), l.tooGreat), slices.ContainsFunc(steps(number-1, 0, 1), l.tooSmall)
			count("a step too great", great && !small)
			count("a step too small", small && !great)
			count("only several windows together", !great && !small)
			count("only more than three windows together", number > 3 && fitInThrees(l))
			continue
		}
		wantAllTight(t, l, tight)
		count("one window", number == 1)
		count("as many as allowed", number == mostWindows)
		count("one way alone, within wider windows", widthOf(tight) == 0 && widthOf(l.list) > 0)
		count("tight already", slices.Equal(tight, l.list) && widthOf(l.list) > 0)
		count("a window tightened at both ends", slices.ContainsFunc(steps(number, 0, 1), func(i int) bool { return tight[i].Young > l.list[i].Young && tight[i].Old < l.list[i].Old }))
		deeper, higher := tightenedFromAfar(l, tight)
		count("tightened by a deeper window across several steps", deeper)
		count("tightened by a higher window across several steps", higher)
		count("a step of no years", slices.Contains(l.steps, only(0)))
		count("a step of any years", slices.Contains(l.steps, anyWindow))
	}
	for _, kind := range []string{
		"a step too great", "a step too small", "only several windows together", "only more than three windows together", "one window", "as many as allowed", "one way alone, within wider windows", "tight already", "a window tightened at both ends",
		"tightened by a deeper window across several steps", "tightened by a higher window across several steps", "a step of no years", "a step of any years",
	} {
		if times[kind] < 20 {
			t.Errorf("only %d windows are of the kind: %s", times[kind], kind)
		}
	}
}

// fitInThrees tells whether ages fit each three windows that follow each other.
func fitInThrees(l windowLists) bool {
	for i := range len(l.list) - 2 {
		if _, ok := l.part(i, i+3).exactTight(); !ok {
			return false
		}
	}
	return true
}

// tightenedFromAfar tells whether the first window is tighter than the first two alone make it, and the last one than the last two.
func tightenedFromAfar(l windowLists, tight []impl.Window) (bool, bool) {
	last := len(l.list) - 1
	if last < 2 {
		return false, false
	}
	first, _ := l.part(0, 2).exactTight()
	behind, _ := l.part(last-1, last+1).exactTight()
	return tight[0] != first[0], tight[last] != behind[1]
}

// TestWindowsOfEveryAge has windows and steps of every number of years alone.
func TestWindowsOfEveryAge(t *testing.T) {
	for age := range oldest + 1 {
		wantAllTight(t, windowLists{list: onlyAt(age)}, onlyAt(age))
		wantAllTight(t, windowLists{onlyAt(0, age), onlyAt(age)}, onlyAt(0, age))
		wantAllTight(t, windowLists{equalWindows(2, anyWindow), onlyAt(age)}, windowsOf(0, oldest-age, age, oldest))
		if age > 0 {
			wantNoAgesFit(t, windowLists{onlyAt(0, age), onlyAt(age - 1)})
			wantNoAgesFit(t, windowLists{onlyAt(0, age-1), onlyAt(age)})
		}
	}
}

func TestP169FirstWindowsAndTheirSteps(t *testing.T) {
	for _, l := range sampleWindows() {
		for k := 1; k <= len(l.list); k++ {
			wantWindowsValid(t, l.part(0, k), true)
		}
		for _, step := range []impl.Window{only(0), anyWindow, l.list[0]} {
			wantWindowsValid(t, windowLists{l.list, append(slices.Clone(l.steps), step)}, false)
			wantWindowsValid(t, windowLists{l.list, append([]impl.Window{step}, l.steps...)}, false)
		}
		for i, w := range l.list {
			wantWindowsValid(t, l.withWindow(i, window(-1, w.Old)), false)
		}
		for i, step := range l.steps {
			wantWindowsValid(t, l.withStep(i, window(-1, step.Old)), false)
		}
	}
}

func TestP170FittingAgesAreWithinTightWindows(t *testing.T) {
	forFitting(t, func(l windowLists, ages []int) {
		tight := tightOf(t, l)
		young, old := youngAndOldOf(t, l)
		for i, age := range ages {
			if age < tight[i].Young || age > tight[i].Old || age < young[i] || age > old[i] {
				t.Fatalf("%s is true, but %s is %s", l.call("WindowsFit", ages), l.call("WindowsTight"), namedWindows(tight))
			}
		}
	})
}

// youngAndOldOf returns WindowsYoung and WindowsOld, which must not fail.
func youngAndOldOf(t *testing.T, l windowLists) ([]int, []int) {
	t.Helper()
	young, okYoung := impl.WindowsYoung(l.list, l.steps)
	old, okOld := impl.WindowsOld(l.list, l.steps)
	if !okYoung || !okOld || len(young) != len(l.list) || len(old) != len(l.list) {
		t.Fatalf("%s returned %s, %t, and WindowsOld %s, %t", l.call("WindowsYoung"), namedInts(young), okYoung, namedInts(old), okOld)
	}
	return young, old
}

func TestP171LesserAndGreaterAges(t *testing.T) {
	forFitting(t, func(l windowLists, ages []int) {
		young, old := youngAndOldOf(t, l)
		lesser, greater := []int{}, []int{}
		for i, age := range ages {
			lesser, greater = append(lesser, min(age, old[i])), append(greater, max(age, young[i]))
		}
		if !slices.Equal(lesser, ages) || !slices.Equal(greater, ages) {
			t.Fatalf("%s is true, but the ages become %s and %s", l.call("WindowsFit", ages), namedInts(lesser), namedInts(greater))
		}
	})
}

func TestP172TightWindowsAreTight(t *testing.T) {
	forTight(t, func(l windowLists, tight []impl.Window) {
		for i, w := range tight {
			if w.Young < l.list[i].Young || w.Old > l.list[i].Old || w.Young > w.Old {
				t.Fatalf("%s returned %s", l.call("WindowsTight"), namedWindows(tight))
			}
		}
		wantTight(t, windowLists{tight, l.steps}, tight, true)
	})
}

func TestP173EachAgeOfATightWindowFits(t *testing.T) {
	forTight(t, func(l windowLists, tight []impl.Window) {
		for i, w := range tight {
			for _, age := range fewAges(w) {
				wantTightAt(t, l.withWindow(i, only(age)), i, only(age))
			}
		}
	})
}

// wantTightAt checks that WindowsTight succeeds, and what one window of it is.
func wantTightAt(t *testing.T, l windowLists, i int, want impl.Window) {
	t.Helper()
	if got := tightOf(t, l); got[i] != want {
		t.Fatalf("%s returned %s, with the index %d not %s", l.call("WindowsTight"), namedWindows(got), i, namedWindows([]impl.Window{want}))
	}
}

func TestP174NoAgeBesideATightWindowFits(t *testing.T) {
	below, above := 0, 0
	forTight(t, func(l windowLists, tight []impl.Window) {
		for i, w := range tight {
			if w.Young > l.list[i].Young {
				below++
				wantNoAgesFit(t, l.withWindow(i, window(l.list[i].Young, w.Young-1)))
				wantNoAgesFit(t, l.withWindow(i, only(w.Young-1)))
			}
			if w.Old < l.list[i].Old {
				above++
				wantNoAgesFit(t, l.withWindow(i, window(w.Old+1, l.list[i].Old)))
				wantNoAgesFit(t, l.withWindow(i, only(w.Old+1)))
			}
		}
	})
	wantOften(t, below, 5000)
	wantOften(t, above, 5000)
}

// TestP175WithAGreaterOld has the Old of windows and of steps.
func TestP175WithAGreaterOld(t *testing.T) {
	times := 0
	forTight(t, func(l windowLists, tight []impl.Window) {
		for i, w := range l.list {
			if w.Old < oldest {
				times++
				wantNotNarrower(t, l.withWindow(i, window(w.Young, w.Old+1)), tight)
			}
		}
		for i, step := range l.steps {
			if step.Old < oldest {
				times++
				wantNotNarrower(t, l.withStep(i, window(step.Young, step.Old+1)), tight)
			}
		}
	})
	wantOften(t, times, 20000)
}

func TestP176OlderWindows(t *testing.T) {
	times := 0
	forTight(t, func(l windowLists, tight []impl.Window) {
		for _, years := range []int{5, 1, 40000} {
			if older := l.older(years); impl.WindowsValid(older.list, older.steps) {
				times++
				wantAllTight(t, older, allOlder(tight, years))
			}
		}
	})
	wantOften(t, times, 10000)
}

func TestP177YoungAgesFitAndNoneLess(t *testing.T) {
	forTight(t, func(l windowLists, tight []impl.Window) {
		young, _ := youngAndOldOf(t, l)
		wantWindowsFit(t, l, young, true)
		wantYoung(t, l, youngOf(tight), true)
		for i, age := range young {
			wantWindowsFit(t, l, replaced(young, i, age-1), false)
		}
	})
}

func TestP178OldAgesFitAndNoneMore(t *testing.T) {
	forTight(t, func(l windowLists, tight []impl.Window) {
		_, old := youngAndOldOf(t, l)
		wantWindowsFit(t, l, old, true)
		wantOld(t, l, oldOf(tight), true)
		for i, age := range old {
			wantWindowsFit(t, l, replaced(old, i, age+1), false)
		}
	})
}

// forWide calls a check with each of the sample windows for which WindowsWide is not -1, and its result.
func forWide(t *testing.T, check func(l windowLists, wide int)) {
	t.Helper()
	times := 0
	for _, l := range sampleWindows() {
		if wide := impl.WindowsWide(l.list, l.steps); wide != -1 {
			times++
			check(l, wide)
		}
	}
	wantOften(t, times, 7000)
}

func TestP179WideIsTheSumOfOldLessThatOfYoung(t *testing.T) {
	forWide(t, func(l windowLists, wide int) {
		young, old := youngAndOldOf(t, l)
		wantNumber(t, l.call("WindowsWide"), wide, sumOfAmounts(old)-sumOfAmounts(young))
		if wide < 0 || wide > widthOf(l.list) {
			t.Fatalf("%s returned %d", l.call("WindowsWide"), wide)
		}
	})
}

func TestP180WideWithOneWindowNarrowed(t *testing.T) {
	forWide(t, func(l windowLists, wide int) {
		for i, w := range tightOf(t, l) {
			narrowed := l.withWindow(i, only(w.Young))
			if got := impl.WindowsWide(narrowed.list, narrowed.steps); got < 0 || got > wide {
				t.Fatalf("%s returned %d, and %s %d", l.call("WindowsWide"), wide, narrowed.call("WindowsWide"), got)
			}
		}
	})
}

func TestP181TightOfFirstWindows(t *testing.T) {
	forTight(t, func(l windowLists, tight []impl.Window) {
		for k := 1; k <= len(l.list); k++ {
			wantNotNarrower(t, l.part(0, k), tight[:k])
		}
	})
}

func TestP182TightWithAStepOfAnyYears(t *testing.T) {
	times := 0
	forTight(t, func(l windowLists, tight []impl.Window) {
		for i := range l.steps {
			times++
			wantNotNarrower(t, l.withStep(i, anyWindow), tight)
		}
	})
	wantOften(t, times, 20000)
}

func TestP183FirstAgesFitFirstWindows(t *testing.T) {
	forFitting(t, func(l windowLists, ages []int) {
		for k := 1; k <= len(ages); k++ {
			wantWindowsFit(t, l.part(0, k), ages[:k], true)
		}
	})
}

func TestP184OldIsNoLessThanYoung(t *testing.T) {
	one, several := 0, 0
	for _, l := range sampleWindows() {
		young, ok := impl.WindowsYoung(l.list, l.steps)
		if !ok {
			wantOld(t, l, nil, false)
			continue
		}
		old, okOld := impl.WindowsOld(l.list, l.steps)
		if !okOld || len(old) != len(young) {
			t.Fatalf("%s returned %s, %t", l.call("WindowsOld"), namedInts(old), okOld)
		}
		for i, age := range young {
			if old[i] < age {
				t.Fatalf("%s returned %s, and WindowsYoung %s", l.call("WindowsOld"), namedInts(old), namedInts(young))
			}
		}
		wide := impl.WindowsWide(l.list, l.steps)
		if (wide == 0) != slices.Equal(young, old) {
			t.Fatalf("%s returned %d, with the ages %s and %s", l.call("WindowsWide"), wide, namedInts(young), namedInts(old))
		}
		if wide == 0 {
			one++
		} else {
			several++
		}
	}
	wantOften(t, one, 1000)
	wantOften(t, several, 3000)
}

func TestP185EachWindowAlone(t *testing.T) {
	for _, l := range sampleWindows() {
		for i, w := range l.list {
			alone := l.part(i, i+1)
			wantTight(t, alone, []impl.Window{w}, true)
			wantYoung(t, alone, []int{w.Young}, true)
			wantOld(t, alone, []int{w.Old}, true)
		}
	}
}

// windowsInOneList returns the windows and steps of each of some as one list.
func windowsInOneList(all []windowLists) [][]impl.Window {
	list := [][]impl.Window{}
	for _, l := range all {
		list = append(list, slices.Concat(l.list, l.steps))
	}
	return list
}

// windowMemory has calls of all functions with parts of one list as windows and steps: one behind the other, in the same memory, and with others, so that they succeed and fail.
func windowMemory(lists [][]impl.Window) memoryCheck[impl.Window] {
	ways := map[string]func(list []impl.Window) ([]impl.Window, []impl.Window){
		"windows and steps behind them": func(list []impl.Window) ([]impl.Window, []impl.Window) {
			return list[:(len(list)+1)/2], list[(len(list)+1)/2:]
		},
		"steps and windows behind them": func(list []impl.Window) ([]impl.Window, []impl.Window) {
			return list[len(list)/2:], list[:len(list)/2]
		},
		"windows, all but the last one as steps": func(list []impl.Window) ([]impl.Window, []impl.Window) { return list, list[:max(0, len(list)-1)] },
		"windows, all but the first one as steps": func(list []impl.Window) ([]impl.Window, []impl.Window) {
			return list, list[min(1, len(list)):]
		},
		"windows and steps of any years": func(list []impl.Window) ([]impl.Window, []impl.Window) {
			return list, equalWindows(max(0, len(list)-1), anyWindow)
		},
		"steps of windows of all ages": func(list []impl.Window) ([]impl.Window, []impl.Window) {
			return equalWindows(len(list)+1, anyWindow), list
		},
	}
	calls := map[string]listCall[impl.Window]{}
	for name, both := range ways {
		name = " of " + name
		calls["WindowsValid"+name] = func(list []impl.Window) ([]impl.Window, bool) { return nil, impl.WindowsValid(both(list)) }
		calls["WindowsTight"+name] = func(list []impl.Window) ([]impl.Window, bool) { return impl.WindowsTight(both(list)) }
		calls["WindowsYoung"+name] = func(list []impl.Window) ([]impl.Window, bool) {
			ages, ok := impl.WindowsYoung(both(list))
			return onlyAt(ages...), ok
		}
		calls["WindowsOld"+name] = func(list []impl.Window) ([]impl.Window, bool) {
			ages, ok := impl.WindowsOld(both(list))
			return onlyAt(ages...), ok
		}
		calls["WindowsWide"+name] = func(list []impl.Window) ([]impl.Window, bool) { return onlyAt(impl.WindowsWide(both(list))), true }
		calls["WindowsFit"+name] = func(list []impl.Window) ([]impl.Window, bool) {
			windows, steps := both(list)
			return nil, impl.WindowsFit(windows, steps, youngOf(windows))
		}
	}
	return memoryCheck[impl.Window]{lists, calls, spoiledWindow, namedWindows}
}

// fitMemory has calls of WindowsFit with lists of ages.
func fitMemory(lists [][]int) memoryCheck[int] {
	calls := map[string]listCall[int]{}
	for number := 1; number <= mostWindows; number++ {
		for _, step := range []impl.Window{only(0), window(5, 9), anyWindow} {
			l := windowLists{equalWindows(number, window(3, oldest)), equalWindows(number-1, step)}
			calls[fmt.Sprintf("WindowsFit of %d windows with steps %d to %d", number, step.Young, step.Old)] = func(list []int) ([]int, bool) { return nil, impl.WindowsFit(l.list, l.steps, list) }
		}
	}
	return memoryCheck[int]{lists, calls, spoiledNumber, namedInts}
}

// ageLists are lists of ages that fit the windows of fitMemory or not.
func ageLists() [][]int {
	lists := [][]int{nil, {-1}, {math.MinInt, math.MaxInt}}
	for number := range mostWindows + 3 {
		lists = append(lists, equalRow(number, 3), equalRow(number, oldest), steps(number, 3, 5), steps(number, 7, 9), steps(number, 3, 10), steps(number, oldest, -1))
	}
	return lists
}

func TestWindowFunctionsWriteNothing(t *testing.T) {
	windowMemory(windowsInOneList(slices.Concat(thinned(sampleWindows(), 4000), noWindows()))).wantNothingWritten(t)
	fitMemory(ageLists()).wantNothingWritten(t)
}

func TestWindowFunctionsShareNothing(t *testing.T) {
	windowMemory(windowsInOneList(slices.Concat(thinned(sampleWindows(), 120), thinned(longWindows(), 60), thinned(noWindows(), 30)))).wantNothingShared(t)
	fitMemory(ageLists()).wantNothingShared(t)
}

func TestWindowFunctionsReadNothingBehindAList(t *testing.T) {
	windowMemory(windowsInOneList(slices.Concat(thinned(sampleWindows(), 500), thinned(longWindows(), 100), thinned(noWindows(), 100)))).wantNothingReadBehind(t)
	fitMemory(ageLists()).wantNothingReadBehind(t)
}

// TestTightAgesShareNothing looks at results that have another type than the arguments, together with those of the other functions.
func TestTightAgesShareNothing(t *testing.T) {
	forTight(t, func(l windowLists, _ []impl.Window) {
		young := func() []int {
			ages, _ := impl.WindowsYoung(l.list, l.steps)
			return ages
		}
		old := func() []int {
			ages, _ := impl.WindowsOld(l.list, l.steps)
			return ages
		}
		wantApart(t, l.call("WindowsYoung and WindowsOld"), spoiledNumber, young, old)
	})
}
