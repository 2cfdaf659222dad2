package tests

import (
	"fmt"
	"math"
	"math/rand/v2"
	"slices"
	"testing"

	"loop.example/icecores/impl"
)

const mostPasses = 8

// spoiledRowNumber is no number of a row; the tests write it over memory that no function may use.
const spoiledRowNumber = mostAmount + 7

// inOppositeOrder returns a list from its last element on.
func inOppositeOrder[T any](list []T) []T {
	list = slices.Clone(list)
	slices.Reverse(list)
	return list
}

// multiplied returns a row with all its numbers multiplied.
func multiplied(row []int, factor int) []int {
	return eachAs(row, func(n int) int { return factor * n })
}

// plus returns the sums of the numbers of two rows of one length, place by place.
func plus(a []int, b []int) []int {
	list := []int{}
	for i, n := range a {
		list = append(list, n+b[i])
	}
	return list
}

// equalRow returns a row of a number of equal numbers.
func equalRow(number int, n int) []int {
	return slices.Repeat([]int{n}, number)
}

// peakRow returns a row of as many zeros with one other number among them.
func peakRow(number int, i int, n int) []int {
	return replaced(equalRow(number, 0), i, n)
}

// stepRow returns a row whose first numbers are equal, and so are its others.
func stepRow(first int, a int, others int, b int) []int {
	return slices.Concat(equalRow(first, a), equalRow(others, b))
}

// fourTo returns 4 to the power of a number of passes.
func fourTo(n int) int {
	power := 1
	for range n {
		power *= 4
	}
	return power
}

// longRows have as many numbers as are allowed or one less, equal, rising, falling, up and down, with a peak, with a step, or mixed.
func longRows() [][]int {
	list := [][]int{}
	for _, number := range []int{mostBins, mostBins - 1} {
		for _, n := range []int{0, 1, -1, 7, mostAmount, -mostAmount} {
			list = append(list, equalRow(number, n))
		}
		for _, step := range []int{1, -1, 1000, -1000} {
			list = append(list, steps(number, 0, step/2), steps(number, -9*step, step))
		}
		upAndDown := slices.Repeat([]int{mostAmount, -mostAmount}, mostBins)[:number]
		list = append(list, upAndDown, multiplied(upAndDown, -1), mixedAmounts(number), multiplied(mixedAmounts(number), -1))
		for i := range number {
			list = append(list, peakRow(number, i, 1), peakRow(number, i, mostAmount), peakRow(number, i, -mostAmount))
			list = append(list, stepRow(i, -mostAmount, number-i, mostAmount), stepRow(i, 3, number-i, -2))
		}
	}
	return list
}

// mixedRows are the same ones in each run, of all lengths, with small and with great numbers.
func mixedRows(number int) [][]int {
	r := rand.New(rand.NewPCG(13, 99))
	list := [][]int{}
	for i := range number {
		most := []int{1, 4, 100, mostAmount}[i%4]
		row := []int{}
		for range 1 + i%mostBins {
			row = append(row, r.IntN(2*most+1)-most)
		}
		list = append(list, row)
	}
	return list
}

// sampleRows returns all rows of a few numbers of few choices, and long and mixed ones.
func sampleRows() [][]int {
	list := [][]int{}
	for number := 1; number <= 4; number++ {
		list = append(list, listsOf(number, -mostAmount, -1, 0, 2, mostAmount)...)
	}
	return slices.Concat(list, listsOf(5, -1, 0, 3), longRows(), mixedRows(240))
}

// numbersOutside are no numbers of a row: next to both ends of their range, and at those of int.
func numbersOutside() []int {
	return []int{
		mostAmount + 1, mostAmount + 2, 2 * mostAmount, 1 << 16, 1 << 32, 1<<32 + 5, math.MaxInt - 1, math.MaxInt,
		-mostAmount - 1, -mostAmount - 2, -2 * mostAmount, -1 << 16, -1 << 32, -1<<32 - 5, math.MinInt + 1, math.MinInt,
	}
}

// passesOutside are no numbers of passes.
func passesOutside() []int {
	return []int{-1, -2, -mostPasses, -1 << 32, math.MinInt + 1, math.MinInt, mostPasses + 1, mostPasses + 2, 2 * mostPasses, 1 << 32, 1<<32 + 1, math.MaxInt - 1, math.MaxInt}
}

// noRows break each condition of a row, at each of its places.
func noRows() [][]int {
	list := [][]int{
		nil, {}, {math.MinInt, math.MaxInt}, {math.MaxInt, math.MinInt}, {math.MinInt, math.MinInt}, {math.MaxInt, math.MaxInt}, {mostAmount + 1, -mostAmount - 1},
		equalRow(mostBins+1, 0), equalRow(mostBins+1, mostAmount), equalRow(mostBins+1, mostAmount+1), mixedAmounts(mostBins + 1), equalRow(mostBins+2, 1), equalRow(2*mostBins, 1), equalRow(2*mostBins+1, 1), equalRow(1000, 0),
	}
	for _, row := range [][]int{{5}, {5, -5}, {0, 0, 0}, {1, 5, 0, -2}, equalRow(mostBins-1, 1), mixedAmounts(mostBins)} {
		list = append(list, spoiledAt(row, numbersOutside())...)
	}
	return list
}

// spoiledAt returns a row with each of its numbers in turn replaced by each of others.
func spoiledAt(row []int, others []int) [][]int {
	list := [][]int{}
	for i := range row {
		for _, n := range others {
			list = append(list, replaced(row, i, n))
		}
	}
	return list
}

// isRow tells by each number whether a list is a row.
func isRow(list []int) bool {
	return len(list) <= mostBins && allWithin(list, -mostAmount, mostAmount)
}

// allWithin tells by each number whether a list has numbers, and all of them are in a range.
func allWithin(list []int, least int, greatest int) bool {
	for _, n := range list {
		if n < least || n > greatest {
			return false
		}
	}
	return len(list) >= 1
}

// exactPass spreads each number: two parts of it stay in its place, and one moves to each side, or stays at an end.
func exactPass(row []int) []int {
	list := equalRow(len(row), 0)
	for i, n := range row {
		list[i] += 2 * n
		list[max(i-1, 0)] += n
		list[min(i+1, len(row)-1)] += n
	}
	return list
}

// waysToChoose returns in how many ways a number of choices has a number of them chosen.
func waysToChoose(choices int, chosen int) int {
	count := 1
	for i := range chosen {
		count = count * (choices - i) / (i + 1)
	}
	return count
}

// exactMany adds up where each number gets to: a pass is two steps by a half to either side, and both ends of the row reflect.
func exactMany(row []int, n int) []int {
	list := equalRow(len(row), 0)
	for from, number := range row {
		for right := range 2*n + 1 {
			place := from + right - n
			for place < 0 || place >= len(row) {
				if place < 0 {
					place = -1 - place
				} else {
					place = 2*len(row) - 1 - place
				}
			}
			list[place] += waysToChoose(2*n, right) * number
		}
	}
	return list
}

// roughness returns the sum of the absolute differences of neighbors of any list of numbers.
func roughness(list []int) int {
	sum := 0
	for i, n := range list[1:] {
		if n > list[i] {
			sum += n - list[i]
		} else {
			sum += list[i] - n
		}
	}
	return sum
}

// allEqual reports whether all numbers of a row are equal.
func allEqual(row []int) bool {
	for _, n := range row {
		if n != row[0] {
			return false
		}
	}
	return true
}

// onRow returns the text of a call with a row and other numbers.
func onRow(name string, row []int, others ...int) string {
	return callText(name, namedInts(row), others...)
}

func wantRow(t *testing.T, call string, got []int, ok bool, want []int, wantOk bool) {
	t.Helper()
	if !slices.Equal(got, want) || ok != wantOk {
		t.Fatalf("%s returned %v, %t, not %v, %t", call, got, ok, want, wantOk)
	}
}

func wantPass(t *testing.T, row []int, want []int, wantOk bool) {
	t.Helper()
	got, ok := impl.SmoothPass(row)
	wantRow(t, onRow("SmoothPass", row), got, ok, want, wantOk)
}

func wantMany(t *testing.T, row []int, n int, want []int, wantOk bool) {
	t.Helper()
	got, ok := impl.SmoothMany(row, n)
	wantRow(t, onRow("SmoothMany", row, n), got, ok, want, wantOk)
}

func wantSum(t *testing.T, row []int, want int, wantOk bool) {
	t.Helper()
	got, ok := impl.SmoothSum(row)
	wantPair(t, onRow("SmoothSum", row), got, ok, want, wantOk)
}

func wantRough(t *testing.T, row []int, want int) {
	t.Helper()
	wantNumber(t, onRow("SmoothRough", row), impl.SmoothRough(row), want)
}

func wantRange(t *testing.T, row []int, wantLeast int, wantGreatest int, wantOk bool) {
	t.Helper()
	least, greatest, ok := impl.SmoothRange(row)
	if least != wantLeast || greatest != wantGreatest || ok != wantOk {
		t.Fatalf("%s returned %d, %d, %t, not %d, %d, %t", onRow("SmoothRange", row), least, greatest, ok, wantLeast, wantGreatest, wantOk)
	}
}

// wantNoRow checks that every function tells that a list is no row, whatever its other argument.
func wantNoRow(t *testing.T, list []int) {
	t.Helper()
	wantPass(t, list, nil, false)
	for n := range mostPasses + 1 {
		wantMany(t, list, n, nil, false)
	}
	for _, n := range passesOutside() {
		wantMany(t, list, n, nil, false)
	}
	wantSum(t, list, 0, false)
	wantRough(t, list, -1)
	wantRange(t, list, 0, 0, false)
}

// passOf returns the numbers behind a pass, which must succeed.
func passOf(t *testing.T, row []int) []int {
	t.Helper()
	got, ok := impl.SmoothPass(row)
	if !ok {
		t.Fatalf("%s failed", onRow("SmoothPass", row))
	}
	return got
}

// manyOf returns the numbers behind a number of passes, which must succeed.
func manyOf(t *testing.T, row []int, n int) []int {
	t.Helper()
	got, ok := impl.SmoothMany(row, n)
	if !ok {
		t.Fatalf("%s failed", onRow("SmoothMany", row, n))
	}
	return got
}

// rangeOf returns the least and the greatest number of a row, which must succeed.
func rangeOf(t *testing.T, row []int) (int, int) {
	t.Helper()
	least, greatest, ok := impl.SmoothRange(row)
	if !ok {
		t.Fatalf("%s failed", onRow("SmoothRange", row))
	}
	return least, greatest
}

// totalOf returns the sum of a row, which must succeed.
func totalOf(t *testing.T, row []int) int {
	t.Helper()
	sum, ok := impl.SmoothSum(row)
	if !ok {
		t.Fatalf("%s failed", onRow("SmoothSum", row))
	}
	return sum
}

// wantWithin checks that no number of a list is outside of a range.
func wantWithin(t *testing.T, call string, list []int, least int, greatest int) {
	t.Helper()
	if len(list) == 0 || slices.Min(list) < least || slices.Max(list) > greatest {
		t.Fatalf("%s returned %v, not all from %d to %d", call, list, least, greatest)
	}
}

// forRows calls a check with each of the sample rows.
func forRows(check func(row []int)) {
	for _, row := range sampleRows() {
		check(row)
	}
}

// forManyPasses calls a check with each sample row, each number of passes, and the numbers behind them.
func forManyPasses(t *testing.T, check func(row []int, n int, behind []int)) {
	t.Helper()
	forRows(func(row []int) {
		for n := range mostPasses + 1 {
			check(row, n, manyOf(t, row, n))
		}
	})
}

// forGreaterNumbers calls a check with each sample row, the places where a number can be greater by 1, and the row with this number greater.
func forGreaterNumbers(t *testing.T, check func(row []int, i int, greater []int)) {
	t.Helper()
	number := 0
	forRows(func(row []int) {
		for i, n := range row {
			if n < mostAmount {
				number++
				check(row, i, replaced(row, i, n+1))
			}
		}
	})
	wantOften(t, number, 5000)
}

func TestPassesMax(t *testing.T) {
	if impl.PassesMax != mostPasses {
		t.Errorf("PassesMax is %d", impl.PassesMax)
	}
}

func TestSmoothPassExamples(t *testing.T) {
	for _, e := range []struct{ row, want []int }{
		{[]int{1, 5, 0}, []int{8, 11, 5}},
		{[]int{1, 2}, []int{5, 7}},
		{[]int{0, 1}, []int{1, 3}},
		{[]int{0, 0, 1, 0, 0}, []int{0, 1, 2, 1, 0}},
		{[]int{1, 0, 0}, []int{3, 1, 0}},
		{[]int{0, 0, -1}, []int{0, -1, -3}},
		{[]int{1, 2, 3, 4}, []int{5, 8, 12, 15}},
		{[]int{4, 3, 2, 1}, []int{15, 12, 8, 5}},
		{[]int{3, -1, 4, -1, 5}, []int{8, 5, 6, 7, 14}},
		{[]int{-3, -5}, []int{-14, -18}},
		{[]int{2, -2, 2, -2}, []int{4, 0, 0, -4}},
		{[]int{mostAmount, -mostAmount}, []int{2 * mostAmount, -2 * mostAmount}},
		{[]int{mostAmount, mostAmount}, []int{4 * mostAmount, 4 * mostAmount}},
		{[]int{-mostAmount, -mostAmount, mostAmount}, []int{-4 * mostAmount, -2 * mostAmount, 2 * mostAmount}},
	} {
		wantPass(t, e.row, e.want, true)
		wantMany(t, e.row, 1, e.want, true)
	}
}

// TestSmoothOfASingleNumber has rows whose only number is its own neighbor at both ends.
func TestSmoothOfASingleNumber(t *testing.T) {
	for _, n := range []int{0, 1, -1, 2, -3, 7, 2500, 2501, 9999, -9999, mostAmount, -mostAmount} {
		row := []int{n}
		wantPass(t, row, []int{4 * n}, true)
		for passes := range mostPasses + 1 {
			wantMany(t, row, passes, []int{fourTo(passes) * n}, true)
		}
		wantSum(t, row, n, true)
		wantRough(t, row, 0)
		wantRange(t, row, n, n, true)
	}
}

func TestSmoothManyExamples(t *testing.T) {
	for _, e := range []struct {
		row  []int
		n    int
		want []int
	}{
		{[]int{1, 5, 0}, 0, []int{1, 5, 0}},
		{[]int{1, 5, 0}, 1, []int{8, 11, 5}},
		{[]int{1, 5, 0}, 2, []int{35, 35, 26}},
		{[]int{1, 5, 0}, 3, []int{140, 131, 113}},
		{[]int{0, 1}, 2, []int{6, 10}},
		{[]int{0, 1}, 8, []int{32640, 32896}},
		{[]int{0, 0, 0, 1, 0, 0, 0}, 2, []int{0, 1, 4, 6, 4, 1, 0}},
		{[]int{0, 0, 0, 1, 0, 0, 0}, 3, []int{1, 6, 15, 20, 15, 6, 1}},
		{[]int{0, 0, 0, 1, 0, 0, 0}, 4, []int{9, 28, 56, 70, 56, 28, 9}},
		{[]int{mostAmount, -mostAmount}, 8, []int{256 * mostAmount, -256 * mostAmount}},
		{equalRow(mostBins, -mostAmount), 8, equalRow(mostBins, -65536*mostAmount)},
		// The coefficients of 16 steps are all there, and none of them gets to an end.
		{peakRow(mostBins, 10, 1), 8, []int{0, 0, 1, 16, 120, 560, 1820, 4368, 8008, 11440, 12870, 11440, 8008, 4368, 1820, 560, 120, 16, 1, 0}},
	} {
		wantMany(t, e.row, e.n, e.want, true)
	}
}

func TestSmoothManyFailsForOtherPasses(t *testing.T) {
	for _, row := range slices.Concat(longRows(), mixedRows(40), [][]int{{0}, {1, 5, 0}}) {
		for _, n := range passesOutside() {
			wantMany(t, row, n, nil, false)
		}
	}
}

// TestSmoothManyBeyondAmountMax has passes whose numbers are no row, behind which further ones succeed.
func TestSmoothManyBeyondAmountMax(t *testing.T) {
	number := 0
	forManyPasses(t, func(row []int, n int, behind []int) {
		if isRow(behind) || n == mostPasses {
			return
		}
		number++
		wantNoRow(t, behind)
		wantMany(t, row, n+1, exactPass(behind), true)
	})
	wantOften(t, number, 5000)
}

func TestSmoothSumExamples(t *testing.T) {
	wantSum(t, []int{1, 5, 0}, 6, true)
	wantSum(t, []int{3, -5}, -2, true)
	wantSum(t, []int{mostAmount, -mostAmount}, 0, true)
	wantSum(t, []int{-1, -1, -1}, -3, true)
	wantSum(t, equalRow(mostBins, mostAmount), mostBins*mostAmount, true)
	wantSum(t, equalRow(mostBins, -mostAmount), -mostBins*mostAmount, true)
	wantSum(t, steps(mostBins, 1, 1), 210, true)
	forRows(func(row []int) { wantSum(t, row, sumOfAmounts(row), true) })
}

func TestSmoothRoughExamples(t *testing.T) {
	wantRough(t, []int{1, 5, 0}, 9)
	wantRough(t, []int{3, -5}, 8)
	wantRough(t, []int{-5, 3}, 8)
	wantRough(t, []int{2, 2, 2}, 0)
	wantRough(t, []int{1, 0, 0, 0}, 1)
	wantRough(t, []int{0, 0, 0, 1}, 1)
	wantRough(t, []int{-1, -4, -2}, 5)
	wantRough(t, []int{-mostAmount, mostAmount}, 2*mostAmount)
	wantRough(t, slices.Repeat([]int{-mostAmount, mostAmount}, mostBins/2), (mostBins-1)*2*mostAmount)
	wantRough(t, steps(mostBins, 50, -3), 57)
	forRows(func(row []int) { wantRough(t, row, roughness(row)) })
}

func TestSmoothRangeExamples(t *testing.T) {
	wantRange(t, []int{1, 5, 0}, 0, 5, true)
	wantRange(t, []int{3, -5}, -5, 3, true)
	wantRange(t, []int{-5, -3}, -5, -3, true)
	wantRange(t, []int{7, 6, 9}, 6, 9, true)
	wantRange(t, []int{2, 2, 2}, 2, 2, true)
	wantRange(t, []int{mostAmount, 0, -mostAmount}, -mostAmount, mostAmount, true)
	wantRange(t, equalRow(mostBins, -mostAmount), -mostAmount, -mostAmount, true)
	for i := range mostBins {
		wantRange(t, peakRow(mostBins, i, 4), 0, 4, true)
		wantRange(t, peakRow(mostBins, i, -4), -4, 0, true)
	}
}

func TestNoRows(t *testing.T) {
	for _, list := range noRows() {
		wantNoRow(t, list)
	}
}

// TestEveryShortRow checks every list of up to four numbers at and next to both ends of their range.
func TestEveryShortRow(t *testing.T) {
	valid := 0
	for number := range 5 {
		for _, list := range listsOf(number, -mostAmount-1, -mostAmount, 0, mostAmount, mostAmount+1) {
			if !isRow(list) {
				wantNoRow(t, list)
				continue
			}
			valid++
			wantPass(t, list, exactPass(list), true)
		}
	}
	wantNumber(t, "the number of rows", valid, 3+9+27+81)
}

func TestRowsOfEveryLength(t *testing.T) {
	for number := range 2*mostBins + 5 {
		for _, n := range []int{0, -1, mostAmount} {
			list := equalRow(number, n)
			if !isRow(list) {
				wantNoRow(t, list)
				continue
			}
			wantPass(t, list, multiplied(list, 4), true)
			wantSum(t, list, number*n, true)
			wantRough(t, list, 0)
			wantRange(t, list, n, n, true)
		}
	}
}

func TestSmoothPassIsExact(t *testing.T) {
	forRows(func(row []int) { wantPass(t, row, exactPass(row), true) })
}

func TestSmoothManyIsExact(t *testing.T) {
	forRows(func(row []int) {
		for n := range mostPasses + 1 {
			wantMany(t, row, n, exactMany(row, n), true)
		}
	})
}

func TestP83PassHasFourTimesTheSum(t *testing.T) {
	forRows(func(row []int) {
		behind := passOf(t, row)
		wantNumber(t, "the number of numbers of "+onRow("SmoothPass", row), len(behind), len(row))
		wantNumber(t, "the sum of "+onRow("SmoothPass", row), sumOfAmounts(behind), 4*totalOf(t, row))
	})
}

func TestP84PassOfTheOppositeOrder(t *testing.T) {
	forRows(func(row []int) {
		wantPass(t, inOppositeOrder(row), inOppositeOrder(passOf(t, row)), true)
	})
}

func TestP85PassIsAddedUp(t *testing.T) {
	forGreaterNumbers(t, func(row []int, i int, greater []int) {
		alone := passOf(t, peakRow(len(row), i, 1))
		wantPass(t, greater, plus(passOf(t, row), alone), true)
	})
}

func TestP86PassIsNotRougher(t *testing.T) {
	forRows(func(row []int) {
		if rough := roughness(passOf(t, row)); rough > 4*impl.SmoothRough(row) {
			t.Fatalf("%s has the differences %d, and the row %d", onRow("SmoothPass", row), rough, impl.SmoothRough(row))
		}
	})
}

func TestP87PassIsWithinTheRange(t *testing.T) {
	forRows(func(row []int) {
		least, greatest := rangeOf(t, row)
		wantWithin(t, onRow("SmoothPass", row), passOf(t, row), 4*least, 4*greatest)
	})
}

func TestP88PassOfEqualNumbers(t *testing.T) {
	for number := 1; number <= mostBins; number++ {
		for _, n := range []int{0, 1, -1, 5, 2500, 2501, -2501, mostAmount, -mostAmount} {
			wantPass(t, equalRow(number, n), equalRow(number, 4*n), true)
		}
	}
}

func TestP89ManyHasTheSumTimesAPowerOfFour(t *testing.T) {
	forRows(func(row []int) {
		wantMany(t, row, 0, row, true)
		wantMany(t, row, 1, passOf(t, row), true)
	})
	forManyPasses(t, func(row []int, n int, behind []int) {
		wantNumber(t, "the number of numbers of "+onRow("SmoothMany", row, n), len(behind), len(row))
		wantNumber(t, "the sum of "+onRow("SmoothMany", row, n), sumOfAmounts(behind), fourTo(n)*totalOf(t, row))
	})
}

func TestP90ManyIsWithinTheRangeAndNotRougher(t *testing.T) {
	lessRough := 0
	forManyPasses(t, func(row []int, n int, behind []int) {
		least, greatest := rangeOf(t, row)
		wantWithin(t, onRow("SmoothMany", row, n), behind, fourTo(n)*least, fourTo(n)*greatest)
		rough, before := roughness(behind), fourTo(n)*impl.SmoothRough(row)
		if rough > before {
			t.Fatalf("%s has the differences %d, and the row, by this measure, %d", onRow("SmoothMany", row, n), rough, before)
		}
		if rough < before {
			lessRough++
		}
	})
	wantOften(t, lessRough, 5000)
}

func TestP91ManyOfTheOppositeOrderAndOfOppositeNumbers(t *testing.T) {
	forManyPasses(t, func(row []int, n int, behind []int) {
		wantMany(t, inOppositeOrder(row), n, inOppositeOrder(behind), true)
		wantMany(t, multiplied(row, -1), n, multiplied(behind, -1), true)
	})
}

func TestP92SumOfTheOppositeOrderAndWithinTheRange(t *testing.T) {
	forRows(func(row []int) {
		sum := totalOf(t, row)
		wantSum(t, inOppositeOrder(row), sum, true)
		least, greatest := rangeOf(t, row)
		if sum < len(row)*least || sum > len(row)*greatest {
			t.Fatalf("%s returned %d, with numbers from %d to %d", onRow("SmoothSum", row), sum, least, greatest)
		}
	})
}

func TestP93RoughAndTheRange(t *testing.T) {
	forRows(func(row []int) {
		rough := impl.SmoothRough(row)
		least, greatest := rangeOf(t, row)
		if rough < greatest-least {
			t.Fatalf("%s returned %d, with numbers from %d to %d", onRow("SmoothRough", row), rough, least, greatest)
		}
		if (rough == 0) != allEqual(row) {
			t.Fatalf("%s returned %d", onRow("SmoothRough", row), rough)
		}
		wantRough(t, inOppositeOrder(row), rough)
	})
}

func TestP94RangeHasAllNumbers(t *testing.T) {
	forRows(func(row []int) {
		least, greatest := rangeOf(t, row)
		wantWithin(t, "the row of "+onRow("SmoothRange", row), row, least, greatest)
		if !slices.Contains(row, least) || !slices.Contains(row, greatest) {
			t.Fatalf("%s returned %d, %d", onRow("SmoothRange", row), least, greatest)
		}
	})
}

func TestP95PassOfAGreaterNumberIsNowhereLess(t *testing.T) {
	forGreaterNumbers(t, func(row []int, _ int, greater []int) {
		before := passOf(t, row)
		for k, n := range passOf(t, greater) {
			if n < before[k] {
				t.Fatalf("%s has %d at the index %d, and %s has %d", onRow("SmoothPass", greater), n, k, onRow("SmoothPass", row), before[k])
			}
		}
	})
}

func TestP96ManyOfEqualNumbersAndOfASingleOne(t *testing.T) {
	single := 0
	forManyPasses(t, func(row []int, n int, behind []int) {
		if allEqual(row) && !allEqual(behind) {
			t.Fatalf("%s returned %v", onRow("SmoothMany", row, n), behind)
		}
		if len(row) == 1 {
			single++
			wantMany(t, row, n, []int{fourTo(n) * row[0]}, true)
		}
	})
	wantOften(t, single, 100)
	for number := 1; number <= mostBins; number++ {
		for n := range mostPasses + 1 {
			wantMany(t, equalRow(number, -3), n, equalRow(number, -3*fourTo(n)), true)
		}
	}
}

func TestP97ManyOfAllNumbersGreater(t *testing.T) {
	number := 0
	forManyPasses(t, func(row []int, n int, behind []int) {
		greater := plus(row, equalRow(len(row), 1))
		if !isRow(greater) {
			return
		}
		number++
		wantMany(t, greater, n, plus(behind, equalRow(len(row), fourTo(n))), true)
	})
	wantOften(t, number, 3000)
}

func TestP98PassOfAStepKeepsItsRoughness(t *testing.T) {
	numbers := []int{0, 1, -1, 2, -7, 2500, mostAmount, -mostAmount}
	for number := 4; number <= mostBins; number++ {
		for _, first := range []int{number / 2, (number + 1) / 2} {
			for _, a := range numbers {
				for _, b := range numbers {
					row := stepRow(first, a, number-first, b)
					wantNumber(t, "the sum of the differences of "+onRow("SmoothPass", row), roughness(passOf(t, row)), 4*impl.SmoothRough(row))
				}
			}
		}
	}
	// With all numbers in range behind the pass, SmoothRough tells it.
	wantRough(t, passOf(t, stepRow(2, -3, 2, 5)), 32)
	wantRough(t, passOf(t, stepRow(10, 2500, 10, -2500)), 20000)
}

func TestP99SumWithAZeroBehind(t *testing.T) {
	number := 0
	forRows(func(row []int) {
		wantSum(t, row[:1], row[0], true)
		if len(row) < mostBins {
			number++
			wantSum(t, slices.Concat(row, []int{0}), totalOf(t, row), true)
		}
	})
	wantOften(t, number, 1000)
}

// rowMemory has calls of all functions with a row, with numbers of passes for which they succeed and fail.
func rowMemory(lists [][]int) memoryCheck[int] {
	calls := map[string]listCall[int]{
		"SmoothPass": impl.SmoothPass,
		"SmoothSum": func(row []int) ([]int, bool) {
			sum, ok := impl.SmoothSum(row)
			return []int{sum}, ok
		},
		"SmoothRough": func(row []int) ([]int, bool) { return []int{impl.SmoothRough(row)}, true },
		"SmoothRange": func(row []int) ([]int, bool) {
			least, greatest, ok := impl.SmoothRange(row)
			return []int{least, greatest}, ok
		},
	}
	for _, n := range []int{-1, 0, 1, 2, mostPasses, mostPasses + 1} {
		calls[fmt.Sprint("SmoothMany of passes ", n)] = func(row []int) ([]int, bool) { return impl.SmoothMany(row, n) }
	}
	return memoryCheck[int]{lists, calls, spoiledRowNumber, namedInts}
}

func TestSmoothFunctionsWriteNothing(t *testing.T) {
	rowMemory(append(sampleRows(), noRows()...)).wantNothingWritten(t)
}

func TestSmoothFunctionsShareNothing(t *testing.T) {
	rowMemory(slices.Concat(longRows(), mixedRows(80), noRows()[:60])).wantNothingShared(t)
}

func TestSmoothFunctionsReadNothingBehindAList(t *testing.T) {
	rowMemory(slices.Concat(longRows(), mixedRows(80), noRows())).wantNothingReadBehind(t)
}
