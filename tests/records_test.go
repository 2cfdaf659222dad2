package tests

import (
	"fmt"
	"math"
	"math/big"
	"math/rand/v2"
	"slices"
	"testing"

	"loop.example/icecores/impl"
)

const (
	mostBins   = 20
	mostAmount = 10000
)

// spoiledNumber is neither an edge nor an amount; the tests write it over memory that no function may use.
const spoiledNumber = -7

// record is what the functions take as a record, valid or not.
type record struct {
	edges   []int
	amounts []int
}

func (r record) first() int {
	return r.edges[0]
}

func (r record) last() int {
	return r.edges[len(r.edges)-1]
}

// withEdge returns the record with another edge at an index.
func (r record) withEdge(i int, edge int) record {
	return record{replaced(r.edges, i, edge), slices.Clone(r.amounts)}
}

// withAmount returns the record with another amount at an index.
func (r record) withAmount(i int, amount int) record {
	return record{slices.Clone(r.edges), replaced(r.amounts, i, amount)}
}

// call returns the text of a call with the record and other arguments.
func (r record) call(name string, others ...any) string {
	s := name + "(" + namedInts(r.edges) + ", " + namedInts(r.amounts)
	for _, o := range others {
		s += ", " + fmt.Sprint(o)
	}
	return s + ")"
}

func namedInts(list []int) string {
	if len(list) > 5*mostBins {
		return fmt.Sprintf("[%d numbers]", len(list))
	}
	return fmt.Sprint(list)
}

func recordOf(edges []int, amounts ...int) record {
	return record{edges, amounts}
}

// replaced returns a list with another element at an index.
func replaced[T any](list []T, i int, x T) []T {
	list = slices.Clone(list)
	list[i] = x
	return list
}

// eachAs returns what each element of a list is turned into.
func eachAs[T any, U any](list []T, turn func(x T) U) []U {
	result := []U{}
	for _, x := range list {
		result = append(result, turn(x))
	}
	return result
}

// steps returns a number of depths from a first one on in equal steps.
func steps(number int, first int, step int) []int {
	list := []int{}
	for i := range number {
		list = append(list, first+i*step)
	}
	return list
}

// amountsFor returns an amount for each bin of a list of edges, the same everywhere.
func amountsFor(edges []int, amount int) []int {
	return slices.Repeat([]int{amount}, max(0, len(edges)-1))
}

// mixedAmounts returns a number of amounts that all differ.
func mixedAmounts(number int) []int {
	list := []int{}
	for i := range number {
		list = append(list, (i*i*2357+i*1009+13)%(mostAmount+1))
	}
	return list
}

// ascendingDepths returns all ascending lists of depths from a first to a last one.
func ascendingDepths(first int, last int) [][]int {
	list := [][]int{{}}
	for d := first; d <= last; d++ {
		for _, rest := range ascendingDepths(d+1, last) {
			list = append(list, slices.Concat([]int{d}, rest))
		}
	}
	return list
}

// listsOf returns all lists of a number of choices.
func listsOf(number int, choices ...int) [][]int {
	if number == 0 {
		return [][]int{{}}
	}
	list := [][]int{}
	for _, rest := range listsOf(number-1, choices...) {
		for _, c := range choices {
			list = append(list, slices.Concat([]int{c}, rest))
		}
	}
	return list
}

// recordsWithin returns all records with edges from a first to a last depth and amounts of a few choices.
func recordsWithin(first int, last int, choices ...int) []record {
	list := []record{}
	for _, edges := range ascendingDepths(first, last) {
		if len(edges) < 2 {
			continue
		}
		for _, amounts := range listsOf(len(edges)-1, choices...) {
			list = append(list, record{edges, amounts})
		}
	}
	return list
}

// longRecords have as many bins as are allowed or one less, reach from end to end, or have amounts at both ends of their range.
func longRecords() []record {
	edges := [][]int{
		steps(mostBins+1, 0, 1500), steps(mostBins+1, 0, 1499), steps(mostBins+1, 0, 1), steps(mostBins+1, deepest-mostBins, 1), steps(mostBins+1, 7, 6), steps(mostBins, 0, 1500), steps(mostBins, 11, 7),
		{0, deepest}, {0, 1, deepest}, {0, 29999, deepest}, {0, 1, 29999, deepest}, {0, 15000, deepest}, {0, 14999, deepest}, {1, 29999}, {1, 14831, 29998}, {3, 10, 9941, 9943, 29989},
		slices.Concat([]int{0}, steps(mostBins-1, 14000, 1), []int{28018}),
	}
	list := []record{}
	for _, e := range edges {
		list = append(list, record{e, amountsFor(e, 0)}, record{e, amountsFor(e, 1)}, record{e, amountsFor(e, mostAmount)}, record{e, mixedAmounts(len(e) - 1)})
	}
	return append(list, cancelling())
}

// cancelling is a record whose first and last bins have parts that are whole together, but great fractions each with all between them.
func cancelling() record {
	edges := slices.Concat([]int{0}, steps(mostBins-1, 14000, 1), []int{28018})
	return record{edges, slices.Concat([]int{1}, slices.Repeat([]int{mostAmount}, mostBins-2), []int{1})}
}

// mixedRecords are the same ones in each run, of short and of long bins, with small and with great amounts.
func mixedRecords(number int) []record {
	r := rand.New(rand.NewPCG(12, 82))
	list := []record{}
	for i := range number {
		longest := []int{2, 9, 200, 1500, 9000}[i%5]
		most := []int{3, 100, mostAmount}[i%3]
		depth := r.IntN(longest)
		edges := []int{depth}
		for range 1 + r.IntN(mostBins) {
			depth += 1 + r.IntN(longest)
			if depth <= deepest {
				edges = append(edges, depth)
			}
		}
		amounts := []int{}
		for range len(edges) - 1 {
			amounts = append(amounts, r.IntN(most+1))
		}
		list = append(list, record{edges, amounts})
	}
	return list
}

// sampleRecords returns all records of a few edges and amounts at both ends, and long and mixed ones.
func sampleRecords() []record {
	return slices.Concat(recordsWithin(0, 4, 0, 1, 3), recordsWithin(deepest-3, deepest, 0, 5, mostAmount), longRecords(), mixedRecords(90))
}

// badNumbers are no depths and no amounts, next to the range of depths and far away.
func badNumbers() []int {
	return append(outsideDepths(), spoiledNumber, -mostAmount, -mostAmount-1)
}

// noEdges break each condition of edges alone and with others, at each end of a list and inside.
func noEdges() [][]int {
	list := [][]int{
		nil, {}, {0}, {5}, {deepest}, {-1}, {deepest + 1}, {math.MinInt}, {math.MaxInt},
		{5, 5}, {0, 0}, {deepest, deepest}, {6, 5}, {1, 0}, {deepest, 0}, {0, 5, 5}, {0, 0, 5}, {0, 5, 4}, {5, 0, 9}, {0, 9, 5}, {9, 5, 0}, {0, 1, 2, 2, 3}, {0, 1, 3, 2, 4},
		{math.MinInt, math.MaxInt}, {math.MaxInt, math.MinInt}, {math.MinInt, math.MinInt}, {math.MaxInt, math.MaxInt}, {math.MinInt, 0, math.MaxInt}, {math.MaxInt - 1, math.MaxInt}, {math.MinInt, math.MinInt + 1},
		{-1, 0}, {-1, 5}, {-1, deepest}, {deepest, deepest + 1}, {0, deepest + 1}, {-1, deepest + 1}, {deepest + 1, deepest + 2}, {-2, -1},
		steps(mostBins+2, 0, 1), steps(mostBins+2, 0, 1400), steps(mostBins+2, deepest-mostBins-1, 1), steps(2*mostBins+1, 0, 3), steps(1000, 0, 1), steps(deepest+1, 0, 1),
	}
	for _, edges := range [][]int{{5, 10}, {5, 10, 20}, steps(mostBins+1, 5, 10)} {
		for i := range edges {
			for _, n := range badNumbers() {
				list = append(list, replaced(edges, i, n))
			}
			if i > 0 {
				list = append(list, replaced(edges, i, edges[i-1]), replaced(edges, i, edges[i-1]-1))
			}
		}
		opposite := slices.Clone(edges)
		slices.Reverse(opposite)
		list = append(list, opposite)
	}
	return list
}

// noRecords break each condition of a record: its edges, its amounts, and the numbers of both.
func noRecords() []record {
	list := []record{}
	for _, edges := range noEdges() {
		list = append(list, record{edges, amountsFor(edges, 5)}, record{edges, nil}, recordOf(edges, 5))
	}
	for _, r := range []record{recordOf([]int{0, deepest}, 5), recordOf([]int{5, 10, 20}, 8, 3), {steps(mostBins+1, 0, 9), mixedAmounts(mostBins)}} {
		for i := range r.amounts {
			for _, n := range append(badNumbers(), mostAmount+1, mostAmount+2, 2*mostAmount) {
				list = append(list, r.withAmount(i, n))
			}
		}
		longer := append(slices.Clone(r.amounts), 0)
		list = append(list, record{r.edges, nil}, record{nil, r.amounts}, record{r.edges, []int{}}, record{r.edges, r.amounts[1:]}, record{r.edges, longer}, record{r.edges, append(longer, 1)},
			record{r.edges[1:], r.amounts}, record{append(slices.Clone(r.edges), deepest+1), r.amounts}, record{r.edges, amountsFor(steps(2000, 0, 1), 1)})
	}
	return append(list, record{}, record{[]int{}, []int{}}, record{[]int{0, 1, 2}, []int{}}, record{steps(mostBins+1, 0, 1), mixedAmounts(mostBins + 1)}, record{steps(mostBins, 0, 1), mixedAmounts(mostBins)})
}

// isRecord tells by each two edges and each amount whether a record is valid.
func isRecord(r record) bool {
	for i, e := range r.edges {
		if e < 0 || e > deepest {
			return false
		}
		for _, ahead := range r.edges[:i] {
			if ahead >= e {
				return false
			}
		}
	}
	for _, a := range r.amounts {
		if a < 0 || a > mostAmount {
			return false
		}
	}
	return len(r.edges) >= 2 && len(r.edges) <= mostBins+1 && len(r.amounts)+1 == len(r.edges)
}

// binsOf returns the bins of edges as pieces of ice.
func binsOf(edges []int) []impl.Piece {
	list := []impl.Piece{}
	for i := range len(edges) - 1 {
		list = append(list, piece(edges[i], edges[i+1]))
	}
	return list
}

// depthsNear returns depths at, next to and between edges, and at both ends of the range, in order: as many as a test of all pairs of them has time for.
func depthsNear(edges []int) []int {
	list := nearDepths(binsOf(edges))
	for _, b := range binsOf(edges) {
		list = append(list, (b.Top+b.Bottom)/2, (2*b.Top+b.Bottom)/3)
	}
	slices.Sort(list)
	return slices.Compact(append(thinned(slices.Compact(list), 30), deepest))
}

// otherEdges returns edges for another way of bins: the same, fewer, more, moved, and some that reach beyond both ends or lie outside.
func otherEdges(r record) [][]int {
	every := depthsNear(r.edges)
	list := [][]int{
		r.edges, {r.first(), r.last()}, r.edges[:2], r.edges[len(r.edges)-2:],
		{0, deepest}, {0, 1}, {deepest - 1, deepest}, {0, 15000, deepest}, {0, 1, 2, 3, 4, 5, deepest}, steps(mostBins+1, 0, 1500), steps(mostBins+1, 0, 1), steps(mostBins+1, deepest-mostBins, 1), steps(mostBins+1, 3, 11),
		every[:min(len(every), mostBins+1)], every[max(0, len(every)-mostBins-1):], fewDepths(binsOf(r.edges)), slices.Concat([]int{0}, r.edges, []int{deepest}), slices.Concat(r.edges[:1], r.edges[len(r.edges)/2:]),
	}
	for _, step := range []int{-1, 1, 2, 100} {
		moved := slices.Clone(r.edges)
		for i := range moved {
			moved[i] += step
		}
		list = append(list, moved)
	}
	for i := range r.edges {
		list = append(list, slices.Delete(slices.Clone(r.edges), i, i+1))
	}
	return slices.DeleteFunc(list, func(edges []int) bool { return !isRecord(record{edges, amountsFor(edges, 0)}) })
}

// amountTo computes the exact amount of a record from its first edge to a depth, or 0 if this is ahead.
func amountTo(r record, depth int) *big.Rat {
	whole := 0
	for i, amount := range r.amounts {
		from, to := r.edges[i], r.edges[i+1]
		if depth <= from {
			break
		}
		if depth < to {
			part := big.NewRat(int64(amount*(depth-from)), int64(to-from))
			return part.Add(part, ratInt(whole))
		}
		whole += amount
	}
	return ratInt(whole)
}

// exactBetween returns what RecordBetween of a valid record is to return. The sums on the way are the amounts down to each edge.
func exactBetween(r record, top int, bottom int) (impl.Frac, bool) {
	if top < 0 || bottom > deepest || top > bottom {
		return impl.Frac{}, false
	}
	ahead := amountTo(r, top)
	sum := impl.Frac{}
	for _, edge := range append(slices.Clone(r.edges[1:]), bottom) {
		exact := amountTo(r, min(max(edge, top), bottom))
		next, ok := fracOfRat(exact.Sub(exact, ahead))
		if !ok {
			return impl.Frac{}, false
		}
		sum = next
	}
	return sum, true
}

// exactMean returns what RecordMean of a valid record is to return.
func exactMean(r record, top int, bottom int) (impl.Frac, bool) {
	amount, ok := exactBetween(r, top, bottom)
	if !ok || top == bottom {
		return impl.Frac{}, false
	}
	mean := ratOf(amount)
	return fracOfRat(mean.Quo(mean, ratInt(bottom-top)))
}

// exactRebin returns what RecordRebin of a valid record and valid other edges is to return.
func exactRebin(r record, other []int) ([]impl.Frac, bool) {
	list := []impl.Frac{}
	for _, b := range binsOf(other) {
		x, ok := exactBetween(r, b.Top, b.Bottom)
		if !ok {
			return nil, false
		}
		list = append(list, x)
	}
	return list, true
}

func wantRecordValid(t *testing.T, r record, want bool) {
	t.Helper()
	if got := impl.RecordValid(r.edges, r.amounts); got != want {
		t.Fatalf("%s returned %t", r.call("RecordValid"), got)
	}
}

func wantTotal(t *testing.T, r record, want int) {
	t.Helper()
	wantNumber(t, r.call("RecordTotal"), impl.RecordTotal(r.edges, r.amounts), want)
}

func wantAmount(t *testing.T, r record, top int, bottom int, want impl.Frac, wantOk bool) {
	t.Helper()
	got, ok := impl.RecordBetween(r.edges, r.amounts, top, bottom)
	if got != want || ok != wantOk {
		t.Fatalf("%s returned %s, %t, not %s, %t", r.call("RecordBetween", top, bottom), named(got), ok, named(want), wantOk)
	}
}

func wantMean(t *testing.T, r record, top int, bottom int, want impl.Frac, wantOk bool) {
	t.Helper()
	got, ok := impl.RecordMean(r.edges, r.amounts, top, bottom)
	if got != want || ok != wantOk {
		t.Fatalf("%s returned %s, %t, not %s, %t", r.call("RecordMean", top, bottom), named(got), ok, named(want), wantOk)
	}
}

func wantRebin(t *testing.T, r record, other []int, want []impl.Frac, wantOk bool) {
	t.Helper()
	got, ok := impl.RecordRebin(r.edges, r.amounts, other)
	if !slices.Equal(got, want) || ok != wantOk {
		t.Fatalf("%s returned %v, %t, not %v, %t", r.call("RecordRebin", namedInts(other)), got, ok, want, wantOk)
	}
}

func wantMerge(t *testing.T, r record, k int, want record, wantOk bool) {
	t.Helper()
	edges, amounts, ok := impl.RecordMerge(r.edges, r.amounts, k)
	if !slices.Equal(edges, want.edges) || !slices.Equal(amounts, want.amounts) || ok != wantOk {
		t.Fatalf("%s returned %v, %v, %t, not %v, %v, %t", r.call("RecordMerge", k), edges, amounts, ok, want.edges, want.amounts, wantOk)
	}
}

// wantNoRecord checks that every function tells that a record is invalid, whatever its other arguments.
func wantNoRecord(t *testing.T, r record) {
	t.Helper()
	wantRecordValid(t, r, false)
	wantTotal(t, r, -1)
	numbers := []int{-1, 0, 1, 5, 10, 15, 20, deepest, deepest + 1, math.MinInt, math.MaxInt}
	for _, top := range numbers {
		wantMerge(t, r, top, record{}, false)
		for _, bottom := range numbers {
			wantAmount(t, r, top, bottom, impl.Frac{}, false)
			wantMean(t, r, top, bottom, impl.Frac{}, false)
		}
	}
	for _, other := range [][]int{nil, {0, deepest}, {5, 10}, {5, 10, 20}, {25, 26, 27}, steps(mostBins+1, 0, 9), {5, 5}, r.edges} {
		wantRebin(t, r, other, nil, false)
	}
}

// forRecords calls a check with each of the sample records.
func forRecords(check func(r record)) {
	for _, r := range sampleRecords() {
		check(r)
	}
}

// forAmounts calls a check with each sample record and each range near its edges for which RecordBetween succeeds, and its result.
func forAmounts(t *testing.T, check func(r record, top int, bottom int, x impl.Frac)) {
	t.Helper()
	times := 0
	forRecords(func(r record) {
		depths := depthsNear(r.edges)
		for i, top := range depths {
			for _, bottom := range depths[i:] {
				if x, ok := impl.RecordBetween(r.edges, r.amounts, top, bottom); ok {
					times++
					check(r, top, bottom, x)
				}
			}
		}
	})
	wantOften(t, times, 30000)
}

// forMeans calls a check with each sample record and each range near its edges for which RecordMean succeeds, and its result.
func forMeans(t *testing.T, check func(r record, top int, bottom int, mean impl.Frac)) {
	t.Helper()
	times := 0
	forAmounts(t, func(r record, top int, bottom int, _ impl.Frac) {
		if mean, ok := impl.RecordMean(r.edges, r.amounts, top, bottom); ok {
			times++
			check(r, top, bottom, mean)
		}
	})
	wantOften(t, times, 30000)
}

// forRebins calls a check with each sample record and other edges for which RecordRebin succeeds, and its result.
func forRebins(t *testing.T, check func(r record, other []int, list []impl.Frac)) {
	t.Helper()
	times := 0
	forRecords(func(r record) {
		for _, other := range otherEdges(r) {
			if list, ok := impl.RecordRebin(r.edges, r.amounts, other); ok {
				times++
				check(r, other, list)
			}
		}
	})
	wantOften(t, times, 8000)
}

// forMerges calls a check with each sample record and index for which RecordMerge succeeds, and its result.
func forMerges(t *testing.T, check func(r record, k int, m record)) {
	t.Helper()
	times := 0
	forRecords(func(r record) {
		for k := range len(r.amounts) {
			if edges, amounts, ok := impl.RecordMerge(r.edges, r.amounts, k); ok {
				times++
				check(r, k, record{edges, amounts})
			}
		}
	})
	wantOften(t, times, 1000)
}

// sumOfFracs returns the sum of all fractions in order, and whether there is one.
func sumOfFracs(list []impl.Frac) (impl.Frac, bool) {
	sum, ok := frac(0, 1), true
	for _, x := range list {
		if sum, ok = impl.FracAdd(sum, x); !ok {
			return impl.Frac{}, false
		}
	}
	return sum, true
}

func sumOfAmounts(amounts []int) int {
	sum := 0
	for _, a := range amounts {
		sum += a
	}
	return sum
}

func TestBinsMaxAndAmountMax(t *testing.T) {
	if impl.BinsMax != mostBins || impl.AmountMax != mostAmount {
		t.Errorf("BinsMax is %d, AmountMax is %d", impl.BinsMax, impl.AmountMax)
	}
}

func TestRecordValidExamples(t *testing.T) {
	for _, r := range []record{
		recordOf([]int{0, 1}, 0), recordOf([]int{0, deepest}, mostAmount), recordOf([]int{29999, deepest}, 5), recordOf([]int{0, 4, 10}, 8, 3),
		{steps(mostBins, 0, 1), mixedAmounts(mostBins - 1)}, {steps(mostBins+1, 0, 1), mixedAmounts(mostBins)}, {steps(mostBins+1, 0, 1500), amountsFor(steps(mostBins+1, 0, 1), mostAmount)},
	} {
		wantRecordValid(t, r, true)
	}
	forRecords(func(r record) { wantRecordValid(t, r, true) })
}

func TestNoRecords(t *testing.T) {
	for _, r := range noRecords() {
		wantNoRecord(t, r)
	}
}

// TestEveryShortRecord checks every list of up to three edges at both ends of the range with every list of up to three amounts at both ends of theirs.
func TestEveryShortRecord(t *testing.T) {
	for _, ends := range [][2]int{{-1, 2}, {deepest - 2, deepest + 1}} {
		valid := 0
		for edges := range 4 {
			for _, e := range listsOf(edges, steps(ends[1]-ends[0]+1, ends[0], 1)...) {
				for amounts := range 4 {
					for _, a := range listsOf(amounts, -1, 0, mostAmount, mostAmount+1) {
						r := record{e, a}
						if !isRecord(r) {
							wantNoRecord(t, r)
							continue
						}
						valid++
						wantRecordValid(t, r, true)
					}
				}
			}
		}
		// Two of three edges with one of two amounts, or all of them with two.
		wantNumber(t, "the number of records", valid, 3*2+4)
	}
}

func TestRecordTotalExamples(t *testing.T) {
	wantTotal(t, recordOf([]int{0, 1}, 0), 0)
	wantTotal(t, recordOf([]int{5, deepest}, 7), 7)
	wantTotal(t, recordOf([]int{0, 4, 10}, 8, 3), 11)
	wantTotal(t, recordOf([]int{0, 1, 2, 3}, mostAmount, 0, mostAmount), 2*mostAmount)
	wantTotal(t, record{steps(mostBins+1, 0, 1500), amountsFor(steps(mostBins+1, 0, 1), mostAmount)}, mostBins*mostAmount)
	wantTotal(t, record{steps(mostBins+1, 0, 1), amountsFor(steps(mostBins+1, 0, 1), 0)}, 0)
}

func TestRecordBetweenExamples(t *testing.T) {
	r := recordOf([]int{10, 14, 20}, 8, 3)
	for _, e := range []struct {
		top, bottom int
		want        impl.Frac
	}{
		{10, 20, frac(11, 1)}, {10, 14, frac(8, 1)}, {14, 20, frac(3, 1)}, // from edge to edge
		{11, 12, frac(2, 1)}, {10, 13, frac(6, 1)}, {14, 15, frac(1, 2)}, {15, 17, frac(1, 1)}, {17, 20, frac(3, 2)}, {19, 20, frac(1, 2)}, // within one bin
		{11, 16, frac(7, 1)}, {12, 15, frac(9, 2)}, {13, 20, frac(5, 1)}, {10, 19, frac(21, 2)}, // across edges
		{0, 10, frac(0, 1)}, {0, 1, frac(0, 1)}, {9, 10, frac(0, 1)}, {3, 7, frac(0, 1)}, // above
		{20, deepest, frac(0, 1)}, {20, 21, frac(0, 1)}, {25, 30, frac(0, 1)}, {29999, deepest, frac(0, 1)}, // below
		{0, 12, frac(4, 1)}, {9, 15, frac(17, 2)}, {13, deepest, frac(5, 1)}, {19, 21, frac(1, 2)}, {9, 21, frac(11, 1)}, {0, deepest, frac(11, 1)}, {1, 29999, frac(11, 1)}, // partly outside
		{0, 0, frac(0, 1)}, {5, 5, frac(0, 1)}, {10, 10, frac(0, 1)}, {12, 12, frac(0, 1)}, {14, 14, frac(0, 1)}, {20, 20, frac(0, 1)}, {29999, 29999, frac(0, 1)}, {deepest, deepest, frac(0, 1)}, // equal depths
	} {
		wantAmount(t, r, e.top, e.bottom, e.want, true)
	}
	for _, e := range [][2]int{{1, 0}, {12, 11}, {14, 10}, {20, 10}, {20, 14}, {deepest, 0}, {deepest, 29999}} {
		wantAmount(t, r, e[0], e[1], impl.Frac{}, false)
	}
	// Two thirds of 1, all of 2, and half of 7.
	wantAmount(t, recordOf([]int{0, 3, 6, 8}, 1, 2, 7), 1, 7, frac(37, 6), true)
}

func TestRecordBetweenAtTheEndsOfTheRange(t *testing.T) {
	for _, r := range []record{recordOf([]int{0, deepest}, 6), recordOf([]int{0, 1, 29999, deepest}, 2, 5, 3), recordOf([]int{100, 200}, 9)} {
		for _, top := range []int{-1, 0, 1, deepest - 1, deepest, deepest + 1} {
			for _, bottom := range []int{-1, 0, 1, deepest - 1, deepest, deepest + 1} {
				want, wantOk := exactBetween(r, top, bottom)
				wantAmount(t, r, top, bottom, want, wantOk)
				if inside := top >= 0 && top <= bottom && bottom <= deepest; wantOk != inside {
					t.Fatalf("the test expects %t of %s", wantOk, r.call("RecordBetween", top, bottom))
				}
			}
		}
	}
	wantAmount(t, recordOf([]int{0, deepest}, 6), 0, 1, frac(1, 5000), true)
	wantAmount(t, recordOf([]int{0, deepest}, mostAmount), 1, deepest, frac(29999, 3), true)
	wantAmount(t, recordOf([]int{0, 1, 29999, deepest}, 2, 5, 3), 29998, deepest, frac(89999, 29998), true)
}

func TestRecordBetweenOfDepthsOutside(t *testing.T) {
	for _, r := range []record{recordOf([]int{0, deepest}, 6), recordOf([]int{10, 14, 20}, 8, 3), cancelling()} {
		for _, out := range outsideDepths() {
			for _, d := range append(outsideDepths(), 0, 10, 12, 20, 29999, deepest) {
				wantAmount(t, r, out, d, impl.Frac{}, false)
				wantAmount(t, r, d, out, impl.Frac{}, false)
				wantMean(t, r, out, d, impl.Frac{}, false)
				wantMean(t, r, d, out, impl.Frac{}, false)
			}
		}
	}
}

func TestRecordBetweenNearTheLimitOfFractions(t *testing.T) {
	r := recordOf([]int{0, 20001, 20002, 20003, 20004, 20005, 20006}, 1, mostAmount, mostAmount, mostAmount, mostAmount, 9997)
	wantAmount(t, r, 20001-10003, 20006, frac(1000000000, 20001), true)
	wantAmount(t, r, 20001-10004, 20006, impl.Frac{}, false) // 1000000001/20001
	wantAmount(t, r, 20001-10004, 20005, frac(40000*20001+10004, 20001), true)
	wantMean(t, r, 20001-10004, 20006, impl.Frac{}, false)
	wantRebin(t, r, []int{0, 20001 - 10003, 20006}, []impl.Frac{frac(9998, 20001), frac(1000000000, 20001)}, true)
	wantRebin(t, r, []int{0, 20001 - 10004, 20006}, nil, false)
	wantRebin(t, r, []int{20001 - 10004, 20006, 20007}, nil, false)
}

// TestRecordBetweenFailsOnTheWay has ranges whose whole amount is a valid fraction, where a sum on the way to it is none.
func TestRecordBetweenFailsOnTheWay(t *testing.T) {
	r := cancelling()
	wantAmount(t, r, 0, 14018, frac(180001, 1), true)
	wantAmount(t, r, 14000, 28018, frac(180001, 1), true)
	for _, out := range []int{1, 2, 6999, 13999} {
		wantAmount(t, r, out, 14018+out, impl.Frac{}, false)
		wantMean(t, r, out, 14018+out, impl.Frac{}, false)
		wantRebin(t, r, []int{out, 14018 + out}, nil, false)
	}
	wantAmount(t, r, 7000, 14018+7000, frac(180001, 1), true) // halves of both bins are no great fractions
	// Both parts of a range and their sum are valid, but not a sum on the way from end to end.
	halves := record{slices.Concat([]int{0}, steps(15, 14000, 1), []int{28014}), slices.Concat([]int{1}, slices.Repeat([]int{mostAmount}, 14), []int{1})}
	wantRebin(t, halves, []int{1, 14007, 14015}, []impl.Frac{frac(70000*14000+13999, 14000), frac(70000*14000+1, 14000)}, true)
	wantAmount(t, halves, 1, 14015, impl.Frac{}, false)
	wantRebin(t, halves, []int{1, 14015}, nil, false)
}

func TestRecordBetweenIsExact(t *testing.T) {
	succeeded, failed := 0, 0
	forRecords(func(r record) {
		depths := slices.Concat([]int{-1}, depthsNear(r.edges), []int{deepest + 1})
		for _, top := range depths {
			for _, bottom := range depths {
				want, wantOk := exactBetween(r, top, bottom)
				wantAmount(t, r, top, bottom, want, wantOk)
				switch {
				case wantOk:
					succeeded++
				case 0 <= top && top <= bottom && bottom <= deepest:
					failed++
				}
			}
		}
	})
	wantOften(t, succeeded, 30000)
	wantOften(t, failed, 500)
}

func TestRecordRebinExamples(t *testing.T) {
	r := recordOf([]int{10, 14, 20}, 8, 3)
	for _, e := range []struct {
		other []int
		want  []impl.Frac
	}{
		{[]int{10, 14, 20}, []impl.Frac{frac(8, 1), frac(3, 1)}}, {[]int{10, 20}, []impl.Frac{frac(11, 1)}}, {[]int{14, 20}, []impl.Frac{frac(3, 1)}}, // the same edges and fewer
		{[]int{10, 11, 14, 15, 20}, []impl.Frac{frac(2, 1), frac(6, 1), frac(1, 2), frac(5, 2)}}, {[]int{12, 15, 19}, []impl.Frac{frac(9, 2), frac(2, 1)}}, // more and others
		{[]int{0, 10, 14, 20, deepest}, []impl.Frac{frac(0, 1), frac(8, 1), frac(3, 1), frac(0, 1)}}, {[]int{0, deepest}, []impl.Frac{frac(11, 1)}}, {[]int{9, 13, 21}, []impl.Frac{frac(6, 1), frac(5, 1)}}, // beyond the record
		{[]int{0, 1, 10}, []impl.Frac{frac(0, 1), frac(0, 1)}}, {[]int{20, 29999, deepest}, []impl.Frac{frac(0, 1), frac(0, 1)}}, // outside
	} {
		wantRebin(t, r, e.other, e.want, true)
	}
	single := []impl.Frac{}
	for range mostBins {
		single = append(single, frac(1, 2))
	}
	wantRebin(t, recordOf([]int{0, 2 * mostBins}, mostBins), steps(mostBins+1, 3, 1), single, true)
}

func TestRecordRebinWithNoEdges(t *testing.T) {
	for _, r := range []record{recordOf([]int{0, deepest}, 6), recordOf([]int{10, 14, 20}, 8, 3), cancelling()} {
		for _, other := range noEdges() {
			wantRebin(t, r, other, nil, false)
		}
	}
}

func TestRecordRebinIsExact(t *testing.T) {
	succeeded, failed := 0, 0
	forRecords(func(r record) {
		for _, other := range otherEdges(r) {
			want, wantOk := exactRebin(r, other)
			wantRebin(t, r, other, want, wantOk)
			if wantOk {
				succeeded++
			} else {
				failed++
			}
		}
	})
	wantOften(t, succeeded, 8000)
	wantOften(t, failed, 50)
}

func TestRecordMergeExamples(t *testing.T) {
	r := recordOf([]int{0, 4, 10, 13, 20}, 8, 3, 0, 5)
	wantMerge(t, r, 0, recordOf([]int{0, 10, 13, 20}, 11, 0, 5), true)
	wantMerge(t, r, 1, recordOf([]int{0, 4, 13, 20}, 8, 3, 5), true)
	wantMerge(t, r, 2, recordOf([]int{0, 4, 10, 20}, 8, 3, 5), true)
	wantMerge(t, recordOf([]int{0, 1, deepest}, 0, 0), 0, recordOf([]int{0, deepest}, 0), true)
	wantMerge(t, recordOf([]int{0, deepest}, 5), 0, record{}, false)
	full := record{steps(mostBins+1, 0, 1500), amountsFor(steps(mostBins+1, 0, 1), 7)}
	for k := range mostBins - 1 {
		edges, amounts := steps(mostBins+1, 0, 1500), amountsFor(steps(mostBins, 0, 1), 7)
		amounts[k] = 14
		wantMerge(t, full, k, record{slices.Delete(edges, k+1, k+2), amounts}, true)
	}
}

func TestRecordMergeOutside(t *testing.T) {
	forRecords(func(r record) {
		bins := len(r.amounts)
		for _, k := range []int{-1, -2, bins - 1, bins, bins + 1, mostBins, -1 << 32, 1 << 32, math.MinInt, math.MinInt + 1, math.MaxInt - 1, math.MaxInt} {
			wantMerge(t, r, k, record{}, false)
		}
	})
}

func TestRecordMergeNearTheLimitOfAmounts(t *testing.T) {
	edges := []int{0, 1, 2, 3}
	for _, a := range []int{0, 1, 5000, mostAmount - 1, mostAmount} {
		wantMerge(t, recordOf(edges, a, mostAmount-a, 9), 0, recordOf([]int{0, 2, 3}, mostAmount, 9), true)
		wantMerge(t, recordOf(edges, 9, a, mostAmount-a), 1, recordOf([]int{0, 1, 3}, 9, mostAmount), true)
		if a > 0 {
			wantMerge(t, recordOf(edges, a, mostAmount-a+1, 9), 0, record{}, false)
			wantMerge(t, recordOf(edges, 9, a, mostAmount-a+1), 1, record{}, false)
		}
	}
	wantMerge(t, recordOf(edges, mostAmount, mostAmount, 0), 0, record{}, false)
	wantMerge(t, recordOf(edges, mostAmount, mostAmount, 0), 1, recordOf([]int{0, 1, 3}, mostAmount, mostAmount), true)
}

func TestRecordMeanExamples(t *testing.T) {
	r := recordOf([]int{10, 14, 20}, 8, 3)
	for _, e := range []struct {
		top, bottom int
		want        impl.Frac
	}{
		{10, 20, frac(11, 10)}, {10, 14, frac(2, 1)}, {14, 20, frac(1, 2)}, {11, 12, frac(2, 1)}, {15, 18, frac(1, 2)}, {12, 15, frac(3, 2)}, {13, 20, frac(5, 7)},
		{0, 10, frac(0, 1)}, {3, 7, frac(0, 1)}, {20, deepest, frac(0, 1)}, {29999, deepest, frac(0, 1)}, {0, 12, frac(1, 3)}, {9, 15, frac(17, 12)}, {13, 23, frac(1, 2)}, {0, deepest, frac(11, deepest)}, {1, 29999, frac(11, 29998)},
	} {
		wantMean(t, r, e.top, e.bottom, e.want, true)
	}
	for _, e := range [][2]int{{0, 0}, {5, 5}, {10, 10}, {12, 12}, {14, 14}, {20, 20}, {deepest, deepest}, {1, 0}, {12, 11}, {20, 10}, {deepest, 0}, {-1, 5}, {-1, -1}, {5, deepest + 1}, {deepest + 1, deepest + 1}} {
		wantMean(t, r, e[0], e[1], impl.Frac{}, false)
	}
	wantMean(t, recordOf([]int{0, deepest}, 1), 0, deepest, frac(1, deepest), true)
}

func TestRecordMeanNearTheLimitOfFractions(t *testing.T) {
	r := recordOf([]int{0, 512, 512 + 3125}, 1, 1)
	wantMean(t, r, 511, 511+625, frac(3125+624*512, 1000000000), true) // the denominator is 512 * 3125 * 625
	wantAmount(t, r, 511, 511+629, frac(3125+628*512, 512*3125), true)
	wantMean(t, r, 511, 511+629, impl.Frac{}, false)
}

func TestRecordMeanIsExact(t *testing.T) {
	succeeded, failed := 0, 0
	forAmounts(t, func(r record, top int, bottom int, _ impl.Frac) {
		want, wantOk := exactMean(r, top, bottom)
		wantMean(t, r, top, bottom, want, wantOk)
		switch {
		case wantOk:
			succeeded++
		case top < bottom:
			failed++
		}
	})
	wantOften(t, succeeded, 30000)
	wantOften(t, failed, 500)
}

// TestRecordMeanFailsWithRecordBetween has means that would be valid fractions of amounts that are none.
func TestRecordMeanFailsWithRecordBetween(t *testing.T) {
	wouldBeValid := 0
	forRecords(func(r record) {
		depths := depthsNear(r.edges)
		for i, top := range depths {
			for _, bottom := range depths[i+1:] {
				if _, ok := exactBetween(r, top, bottom); ok {
					continue
				}
				wantMean(t, r, top, bottom, impl.Frac{}, false)
				amount := amountTo(r, bottom)
				amount.Sub(amount, amountTo(r, top))
				if _, ok := fracOfRat(amount.Quo(amount, ratInt(bottom-top))); ok {
					wouldBeValid++
				}
			}
		}
	})
	wantOften(t, wouldBeValid, 5)
}

func TestP67FirstBinsAreARecord(t *testing.T) {
	forRecords(func(r record) {
		for k := range r.amounts {
			wantRecordValid(t, record{r.edges[:k+2], r.amounts[:k+1]}, true)
			wantRecordValid(t, r.withAmount(k, -1), false)
		}
		wantRecordValid(t, record{r.edges[:1], nil}, false)
		wantRecordValid(t, record{r.edges, r.amounts[1:]}, false)
		wantRecordValid(t, record{r.edges, append(slices.Clone(r.amounts), 1)}, false)
	})
}

func TestP68TotalIsTheSumAndFromEndToEnd(t *testing.T) {
	forRecords(func(r record) {
		sum := sumOfAmounts(r.amounts)
		wantTotal(t, r, sum)
		wantAmount(t, r, r.first(), r.last(), frac(sum, 1), true)
	})
}

func TestP69BetweenIsAdded(t *testing.T) {
	times := 0
	forAmounts(t, func(r record, top int, bottom int, x impl.Frac) {
		total := frac(sumOfAmounts(r.amounts), 1)
		if impl.FracLess(x, frac(0, 1)) || impl.FracLess(total, x) {
			t.Fatalf("%s returned %s", r.call("RecordBetween", top, bottom), named(x))
		}
		if top == bottom && x != frac(0, 1) {
			t.Fatalf("%s returned %s", r.call("RecordBetween", top, bottom), named(x))
		}
		for _, d := range fewDepths(binsOf(r.edges)) {
			if d < top || d > bottom {
				continue
			}
			a, okA := impl.RecordBetween(r.edges, r.amounts, top, d)
			b, okB := impl.RecordBetween(r.edges, r.amounts, d, bottom)
			if okA && okB {
				times++
				sum, ok := impl.FracAdd(a, b)
				wantFrac(t, r.call("RecordBetween", top, bottom, "in two parts at", d), sum, ok, x, true)
			}
		}
	})
	wantOften(t, times, 100000)
}

func TestP70BetweenOfABinAndOutside(t *testing.T) {
	forRecords(func(r record) {
		for i, a := range r.amounts {
			wantAmount(t, r, r.edges[i], r.edges[i+1], frac(a, 1), true)
		}
		depths := depthsNear(r.edges)
		for i, top := range depths {
			for _, bottom := range depths[i:] {
				if bottom <= r.first() || top >= r.last() {
					wantAmount(t, r, top, bottom, frac(0, 1), true)
				}
			}
		}
	})
}

func TestP71DoubledAmountsAreTwiceAsGreat(t *testing.T) {
	times := 0
	forAmounts(t, func(r record, top int, bottom int, x impl.Frac) {
		double := record{r.edges, slices.Clone(r.amounts)}
		for i := range double.amounts {
			double.amounts[i] *= 2
		}
		if !impl.RecordValid(double.edges, double.amounts) {
			return
		}
		if y, ok := impl.RecordBetween(double.edges, double.amounts, top, bottom); ok {
			times++
			want, wantOk := impl.FracMul(x, frac(2, 1))
			wantFrac(t, double.call("RecordBetween", top, bottom), y, ok, want, wantOk)
		}
	})
	wantOften(t, times, 20000)
}

func TestP72RebinHasAllAmounts(t *testing.T) {
	times := 0
	forRebins(t, func(r record, other []int, list []impl.Frac) {
		wantNumber(t, "the number of amounts of "+r.call("RecordRebin", other), len(list), len(other)-1)
		sum, ok := sumOfFracs(list)
		x, okX := impl.RecordBetween(r.edges, r.amounts, other[0], other[len(other)-1])
		if ok && okX {
			times++
			wantFrac(t, "the sum of "+r.call("RecordRebin", other), sum, ok, x, true)
		}
	})
	wantOften(t, times, 8000)
}

func TestP73RebinWithTheSameEdges(t *testing.T) {
	forRecords(func(r record) {
		own := []impl.Frac{}
		for _, a := range r.amounts {
			own = append(own, frac(a, 1))
		}
		wantRebin(t, r, r.edges, own, true)
		wantRebin(t, r, []int{r.first(), r.last()}, []impl.Frac{frac(sumOfAmounts(r.amounts), 1)}, true)
	})
}

func TestP74MergeKeepsTheTotalAndTheOtherBins(t *testing.T) {
	forMerges(t, func(r record, k int, m record) {
		wantRecordValid(t, m, true)
		wantNumber(t, "the number of bins of "+r.call("RecordMerge", k), len(m.amounts), len(r.amounts)-1)
		wantTotal(t, m, sumOfAmounts(r.amounts))
		for i := range m.amounts {
			if i == k {
				continue
			}
			for _, top := range []int{m.edges[i], (m.edges[i] + m.edges[i+1]) / 2} {
				want, wantOk := impl.RecordBetween(r.edges, r.amounts, top, m.edges[i+1])
				wantAmount(t, m, top, m.edges[i+1], want, wantOk)
			}
		}
	})
}

func TestP75MergeOfTwoBins(t *testing.T) {
	times := 0
	forRecords(func(r record) {
		if sum := sumOfAmounts(r.amounts); len(r.amounts) == 2 && sum <= mostAmount {
			times++
			wantMerge(t, r, 0, recordOf([]int{r.first(), r.last()}, sum), true)
		}
	})
	wantOften(t, times, 100)
}

func TestP76MeanTimesTheDistance(t *testing.T) {
	forMeans(t, func(r record, top int, bottom int, mean impl.Frac) {
		want, wantOk := impl.FracMul(mean, frac(bottom-top, 1))
		wantAmount(t, r, top, bottom, want, wantOk)
	})
}

func TestP77MeanWithinABin(t *testing.T) {
	forRecords(func(r record) {
		for i, b := range binsOf(r.edges) {
			want, _ := impl.FracOf(r.amounts[i], b.Bottom-b.Top)
			depths := depthsNear([]int{b.Top, b.Bottom})
			for k, top := range depths {
				for _, bottom := range depths[k+1:] {
					if top >= b.Top && bottom <= b.Bottom {
						wantMean(t, r, top, bottom, want, true)
					}
				}
			}
		}
	})
}

func TestP78BetweenGrowsWithTheRange(t *testing.T) {
	longer, shorter := 0, 0
	forAmounts(t, func(r record, top int, bottom int, x impl.Frac) {
		if next, ok := impl.RecordBetween(r.edges, r.amounts, top, bottom+1); ok {
			longer++
			if impl.FracLess(next, x) {
				t.Fatalf("%s returned %s, and %s to the depth ahead", r.call("RecordBetween", top, bottom+1), named(next), named(x))
			}
		}
		if rest, ok := impl.RecordBetween(r.edges, r.amounts, top+1, bottom); ok {
			shorter++
			if impl.FracLess(x, rest) {
				t.Fatalf("%s returned %s, and %s from the depth ahead", r.call("RecordBetween", top+1, bottom), named(rest), named(x))
			}
		}
	})
	wantOften(t, longer, 30000)
	wantOften(t, shorter, 30000)
}

func TestP79MergeKeepsTheAmountsFromTheFirstEdge(t *testing.T) {
	forMerges(t, func(r record, _ int, m record) {
		for _, edge := range m.edges {
			want, wantOk := impl.RecordBetween(r.edges, r.amounts, r.first(), edge)
			wantAmount(t, m, r.first(), edge, want, wantOk)
			if !wantOk {
				t.Fatalf("%s failed", r.call("RecordBetween", r.first(), edge))
			}
		}
	})
}

func TestP80TotalIsAdded(t *testing.T) {
	times := 0
	forRecords(func(r record) {
		for k := 1; k < len(r.amounts); k++ {
			times++
			first := impl.RecordTotal(r.edges[:k+1], r.amounts[:k])
			others := impl.RecordTotal(r.edges[k:], r.amounts[k:])
			if first < 0 || others < 0 {
				t.Fatalf("the parts of %s at the bin %d have the totals %d and %d", r.call("RecordTotal"), k, first, others)
			}
			wantTotal(t, r, first+others)
		}
	})
	wantOften(t, times, 1000)
}

func TestP81RebinWithoutTheEdgeBetween(t *testing.T) {
	times := 0
	forRecords(func(r record) {
		few := fewDepths(binsOf(r.edges))
		for i, middle := range few {
			for k := range i {
				other := []int{few[k], middle, few[len(few)-1-k]}
				list, ok := impl.RecordRebin(r.edges, r.amounts, other)
				if !ok {
					continue
				}
				sum, ok := sumOfFracs(list)
				ends := []int{other[0], other[2]}
				// The sum of both may be a fraction where one on the way from end to end is not.
				if _, whole := exactBetween(r, ends[0], ends[1]); ok && whole {
					times++
					wantRebin(t, r, ends, []impl.Frac{sum}, true)
				}
			}
		}
	})
	wantOften(t, times, 5000)
}

func TestP82MeansOfBothPartsLieAroundTheMean(t *testing.T) {
	times := 0
	forMeans(t, func(r record, top int, bottom int, mean impl.Frac) {
		for _, d := range fewDepths(binsOf(r.edges)) {
			if d <= top || d >= bottom {
				continue
			}
			a, okA := impl.RecordMean(r.edges, r.amounts, top, d)
			b, okB := impl.RecordMean(r.edges, r.amounts, d, bottom)
			if !okA || !okB {
				continue
			}
			times++
			bothLess := impl.FracLess(a, mean) && impl.FracLess(b, mean)
			bothGreater := impl.FracLess(mean, a) && impl.FracLess(mean, b)
			if bothLess || bothGreater {
				t.Fatalf("%s returned %s, and %s and %s for both parts at %d", r.call("RecordMean", top, bottom), named(mean), named(a), named(b), d)
			}
		}
	})
	wantOften(t, times, 30000)
}

// inOneList returns the edges and amounts of a record in one memory, the amounts right behind the edges, so that writing behind these is seen.
func inOneList(records []record) [][]int {
	list := [][]int{}
	for _, r := range records {
		list = append(list, slices.Concat(r.edges, r.amounts))
	}
	return list
}

// fromOneList returns the parts of one list as a record, without copying.
func fromOneList(list []int) record {
	k := (len(list) + 1) / 2
	return record{list[:k], list[k:]}
}

// fracInts tells fractions as integers.
func fracInts(list ...impl.Frac) []int {
	ints := []int{}
	for _, x := range list {
		ints = append(ints, x.Num, x.Den)
	}
	return ints
}

// recordMemory has calls of all functions with a record in one list, with arguments for which they succeed and fail.
func recordMemory(lists [][]int) memoryCheck[int] {
	calls := map[string]listCall[int]{}
	addCall := func(name string, call func(r record) ([]int, bool)) {
		calls[name] = func(list []int) ([]int, bool) { return call(fromOneList(list)) }
	}
	addCall("RecordValid", func(r record) ([]int, bool) { return nil, impl.RecordValid(r.edges, r.amounts) })
	addCall("RecordTotal", func(r record) ([]int, bool) { return []int{impl.RecordTotal(r.edges, r.amounts)}, true })
	for _, k := range []int{-1, 0, 1, 2, 7, mostBins - 2, mostBins - 1} {
		addCall(fmt.Sprint("the edges of RecordMerge ", k), func(r record) ([]int, bool) {
			edges, _, ok := impl.RecordMerge(r.edges, r.amounts, k)
			return edges, ok
		})
		addCall(fmt.Sprint("the amounts of RecordMerge ", k), func(r record) ([]int, bool) {
			_, amounts, ok := impl.RecordMerge(r.edges, r.amounts, k)
			return amounts, ok
		})
	}
	for _, e := range [][2]int{{0, deepest}, {1, 3}, {0, 2}, {14003, 29998}, {7, 7}, {3, 1}, {-1, 5}} {
		addCall(fmt.Sprint("RecordBetween ", e), func(r record) ([]int, bool) {
			x, ok := impl.RecordBetween(r.edges, r.amounts, e[0], e[1])
			return fracInts(x), ok
		})
		addCall(fmt.Sprint("RecordMean ", e), func(r record) ([]int, bool) {
			x, ok := impl.RecordMean(r.edges, r.amounts, e[0], e[1])
			return fracInts(x), ok
		})
		addCall(fmt.Sprint("RecordRebin ", e), func(r record) ([]int, bool) {
			x, ok := impl.RecordRebin(r.edges, r.amounts, []int{e[0], 2, e[1]})
			return fracInts(x...), ok
		})
	}
	addCall("RecordRebin with the same edges", func(r record) ([]int, bool) {
		x, ok := impl.RecordRebin(r.edges, r.amounts, r.edges)
		return fracInts(x...), ok
	})
	return memoryCheck[int]{lists, calls, spoiledNumber, namedInts}
}

// edgesMemory has calls of all functions with edges alone as their list.
func edgesMemory(lists [][]int) memoryCheck[int] {
	calls := map[string]listCall[int]{
		"RecordValid": func(edges []int) ([]int, bool) { return nil, impl.RecordValid(edges, amountsFor(edges, 5)) },
		"RecordTotal": func(edges []int) ([]int, bool) { return []int{impl.RecordTotal(edges, amountsFor(edges, 5))}, true },
		"RecordBetween": func(edges []int) ([]int, bool) {
			x, ok := impl.RecordBetween(edges, amountsFor(edges, 5), 1, 29999)
			return fracInts(x), ok
		},
		"RecordMean": func(edges []int) ([]int, bool) {
			x, ok := impl.RecordMean(edges, amountsFor(edges, 5), 1, 29999)
			return fracInts(x), ok
		},
		"RecordMerge": func(edges []int) ([]int, bool) {
			merged, _, ok := impl.RecordMerge(edges, amountsFor(edges, 5), 0)
			return merged, ok
		},
		"RecordRebin": func(edges []int) ([]int, bool) {
			x, ok := impl.RecordRebin(edges, amountsFor(edges, 5), []int{0, 3, 29998})
			return fracInts(x...), ok
		},
		"RecordRebin with other edges": func(edges []int) ([]int, bool) {
			x, ok := impl.RecordRebin([]int{0, 3, 29998}, []int{8, 9}, edges)
			return fracInts(x...), ok
		},
	}
	return memoryCheck[int]{lists, calls, spoiledNumber, namedInts}
}

func TestRecordFunctionsWriteNothing(t *testing.T) {
	lists := append(sampleRecords(), noRecords()...)
	recordMemory(inOneList(lists)).wantNothingWritten(t)
	for _, r := range lists {
		edgesMemory([][]int{r.edges}).wantNothingWritten(t)
	}
}

func TestRecordFunctionsShareNothing(t *testing.T) {
	recordMemory(inOneList(slices.Concat(longRecords(), mixedRecords(30), noRecords()[:40]))).wantNothingShared(t)
}

func TestRecordFunctionsReadNothingBehindAList(t *testing.T) {
	lists := slices.Concat(longRecords(), mixedRecords(30))
	recordMemory(inOneList(lists)).wantNothingReadBehind(t)
	for _, r := range lists {
		edgesMemory([][]int{r.edges}).wantNothingReadBehind(t)
	}
}

func TestRecordMergeResultsShareNothing(t *testing.T) {
	forMerges(t, func(r record, k int, _ record) {
		edges, amounts, _ := impl.RecordMerge(r.edges, r.amounts, k)
		wantApartInACall(t, r.call("RecordMerge", k), spoiledNumber, edges, amounts)
	})
}

// TestRecordRebinResultsShareNothing writes over all the memory of the result of one call and looks at that of others.
func TestRecordRebinResultsShareNothing(t *testing.T) {
	forRebins(t, func(r record, other []int, list []impl.Frac) {
		want := slices.Clone(list)
		again, _ := impl.RecordRebin(r.edges, r.amounts, other)
		again = again[:cap(again)]
		for i := range again {
			again[i] = frac(spoiledNumber, spoiledNumber)
		}
		if !slices.Equal(list, want) {
			t.Fatalf("two results of %s share memory", r.call("RecordRebin", other))
		}
		wantRebin(t, r, other, want, true)
	})
}
