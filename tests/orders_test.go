package tests

import (
	"fmt"
	"math"
	"math/bits"
	"math/rand/v2"
	"slices"
	"strings"
	"testing"

	"loop.example/icecores/impl"
)

const (
	mostParts  = 4
	mostInPart = 6
	// ordersOfMost is how many orders a part of the greatest size has.
	ordersOfMost = 924
)

// partLists are two lists of numbers of layers, parts or not.
type partLists struct {
	a, b []int
}

// partsAt returns the lists with each two numbers of a list as those of one part.
func partsAt(numbers ...int) partLists {
	l := partLists{}
	for pair := range slices.Chunk(numbers, 2) {
		l.a, l.b = append(l.a, pair[0]), append(l.b, pair[1])
	}
	return l
}

// equalParts returns a number of parts with equal numbers of layers.
func equalParts(number int, a int, b int) partLists {
	return partLists{equalRow(number, a), equalRow(number, b)}
}

// call returns the text of a call with both lists and numbers.
func (l partLists) call(name string, numbers ...int) string {
	return callText(name, namedInts(l.a)+", "+namedInts(l.b), numbers...)
}

func (l partLists) exchanged() partLists {
	return partLists{l.b, l.a}
}

// with returns the lists with other numbers of layers in a part.
func (l partLists) with(part int, a int, b int) partLists {
	return partLists{replaced(l.a, part, a), replaced(l.b, part, b)}
}

// part returns the parts from one index up to, but not at, another one.
func (l partLists) part(first int, behind int) partLists {
	return partLists{l.a[first:behind], l.b[first:behind]}
}

func (l partLists) equal(other partLists) bool {
	return slices.Equal(l.a, other.a) && slices.Equal(l.b, other.b)
}

// isParts tells by each number of layers whether two lists are parts.
func (l partLists) isParts() bool {
	return len(l.a) == len(l.b) && len(l.a) <= mostParts && allWithin(l.a, 0, mostInPart) && allWithin(l.b, 0, mostInPart)
}

// listOrders returns all orders of a part, one by one: all texts of 'a' and 'b' of its length that have so many of both.
func listOrders(a int, b int) []string {
	list := []string{}
	for number := range uint(1) << (a + b) {
		if bits.OnesCount(number) != b {
			continue
		}
		order := ""
		for i := range a + b {
			order = string("ab"[number>>i&1]) + order
		}
		list = append(list, order)
	}
	slices.Sort(list)
	return list
}

// ordersOfParts are the lists of orders of each single part, by its numbers of layers.
var ordersOfParts = listOrdersOfParts()

func listOrdersOfParts() [mostInPart + 1][mostInPart + 1][]string {
	lists := [mostInPart + 1][mostInPart + 1][]string{}
	for a := range lists {
		for b := range lists[a] {
			lists[a][b] = listOrders(a, b)
		}
	}
	return lists
}

// ordersOf returns all orders of one of the parts alone, sorted.
func (l partLists) ordersOf(part int) []string {
	return ordersOfParts[l.a[part]][l.b[part]]
}

// count returns how many orders the parts have together.
func (l partLists) count() int {
	count := 1
	for part := range l.a {
		count *= len(l.ordersOf(part))
	}
	return count
}

// allOrders returns all orders of the parts, one by one, and sorted byte by byte.
func (l partLists) allOrders() []string {
	all := l.ordersOf(0)
	for part := 1; part < len(l.a); part++ {
		longer := []string{}
		for _, ahead := range all {
			for _, order := range l.ordersOf(part) {
				longer = append(longer, ahead+"|"+order)
			}
		}
		all = longer
	}
	all = slices.Clone(all)
	slices.Sort(all)
	return all
}

// exactNth tells the orders with a rank: as in a number, the ranks in the parts are its digits, and the last part changes first.
func (l partLists) exactNth(n int) string {
	s := ""
	for part := len(l.a) - 1; part >= 0; part-- {
		orders := l.ordersOf(part)
		s = "|" + orders[n%len(orders)] + s
		n /= len(orders)
	}
	return s[1:]
}

// exactRank tells the rank of orders of parts in the same way.
func (l partLists) exactRank(s string) int {
	n := 0
	for part, order := range strings.Split(s, "|") {
		rank, _ := slices.BinarySearch(l.ordersOf(part), order)
		n = n*len(l.ordersOf(part)) + rank
	}
	return n
}

// layersIn returns for each layer of a core the part that has it and its index there.
func layersIn(numbers []int) [][2]int {
	list := [][2]int{}
	for part, number := range numbers {
		for i := range number {
			list = append(list, [2]int{part, i})
		}
	}
	return list
}

// hasAhead tells whether orders have the 'a' with an index ahead of the 'b' with an index.
func hasAhead(s string, i int, k int) bool {
	return indexOf(s, 'a', i) < indexOf(s, 'b', k)
}

// indexOf returns where a text has the letter with an index among all letters like it.
func indexOf(s string, letter byte, times int) int {
	for i := range len(s) {
		if s[i] == letter {
			if times == 0 {
				return i
			}
			times--
		}
	}
	return -1
}

// timesAhead returns how many of some orders have the 'a' with an index ahead of the 'b' with an index.
func timesAhead(orders []string, i int, k int) int {
	times := 0
	for _, s := range orders {
		if hasAhead(s, i, k) {
			times++
		}
	}
	return times
}

// exactBetween tells how many orders have a layer ahead of another one, by the orders of their part alone, one by one.
func (l partLists) exactBetween(i int, k int) int {
	x, y := layersIn(l.a)[i], layersIn(l.b)[k]
	if x[0] != y[0] {
		if x[0] < y[0] {
			return l.count()
		}
		return 0
	}
	orders := l.ordersOf(x[0])
	return l.count() / len(orders) * timesAhead(orders, x[1], y[1])
}

// layers returns how many layers both cores have over all parts.
func (l partLists) layers() (int, int) {
	return sumOfAmounts(l.a), sumOfAmounts(l.b)
}

// partsIn tells, byte by byte, the parts of which a text are orders, and whether there are any.
func partsIn(s string) (partLists, bool) {
	l := equalParts(1, 0, 0)
	for i := range len(s) {
		last := len(l.a) - 1
		switch s[i] {
		case 'a':
			l.a[last]++
		case 'b':
			l.b[last]++
		case '|':
			l.a, l.b = append(l.a, 0), append(l.b, 0)
		default:
			return partLists{}, false
		}
	}
	if !l.isParts() {
		return partLists{}, false
	}
	return l, true
}

// partsWithin returns all lists of a number of parts with some choices of numbers of layers.
func partsWithin(number int, choices ...int) []partLists {
	return eachAs(listsOf(2*number, choices...), func(numbers []int) partLists { return partsAt(numbers...) })
}

// shortParts have few orders, so that all of them can be looked at.
func shortParts() []partLists {
	return slices.Concat(partsWithin(1, 0, 1, 2, 3, 4, 5, 6), partsWithin(2, 0, 1, 2, 3), partsWithin(3, 0, 1, 2), partsWithin(4, 0, 1), partsWithin(4, 0, 2))
}

// longParts have parts of the greatest size, alone and with others of which one core or both have few layers, or none.
func longParts() []partLists {
	list := []partLists{}
	for number := 1; number <= mostParts; number++ {
		most := equalParts(number, mostInPart, mostInPart)
		for part := range number {
			for a := range mostInPart + 1 {
				for b := range mostInPart + 1 {
					list = append(list, most.with(part, a, b))
				}
			}
			for behind := part + 1; behind < number; behind++ {
				list = append(list, most.with(part, 0, 0).with(behind, 0, 0), most.with(part, 0, 6).with(behind, 6, 0), most.with(part, 5, 0).with(behind, 0, 0), most.with(part, 1, 1).with(behind, 1, 1))
			}
		}
		list = append(list, equalParts(number, mostInPart, 0), equalParts(number, 0, mostInPart), equalParts(number, mostInPart, 1), equalParts(number, mostInPart-1, mostInPart-1))
	}
	return list
}

// mixedParts are the same ones in each run, of all numbers of parts.
func mixedParts(rounds int) []partLists {
	r := rand.New(rand.NewPCG(24, 201))
	list := []partLists{}
	for range rounds {
		for number := 1; number <= mostParts; number++ {
			l := partLists{}
			for range number {
				l.a, l.b = append(l.a, r.IntN(mostInPart+1)), append(l.b, r.IntN(mostInPart+1))
			}
			list = append(list, l)
		}
	}
	return list
}

// sampleParts are all these.
func sampleParts() []partLists {
	return slices.Concat(shortParts(), longParts(), mixedParts(150))
}

// ranksOf returns all ranks that orders of the parts have if there are few, and otherwise the first and the last ones, those next to where the order of a part changes, and mixed ones.
func (l partLists) ranksOf() []int {
	count := l.count()
	if count <= ordersOfMost {
		return steps(count, 0, 1)
	}
	r := rand.New(rand.NewPCG(24, uint64(count)))
	ranks := []int{0, 1, 2, count / 2, count - 3, count - 2, count - 1}
	for part := range l.a {
		behind := l.part(part, len(l.a)).count()
		for _, n := range []int{behind, behind * r.IntN(count/behind), behind * r.IntN(count/behind)} {
			ranks = append(ranks, n-1, n, n+1)
		}
	}
	for range 8 {
		ranks = append(ranks, r.IntN(count))
	}
	ranks = slices.DeleteFunc(ranks, func(n int) bool { return n < 0 || n >= count })
	slices.Sort(ranks)
	return slices.Compact(ranks)
}

// ranksOutside are no ranks of orders of parts: next to both ends of their range, and at those of int.
func (l partLists) ranksOutside() []int {
	count := l.count()
	return []int{-1, -2, -count, -count - 1, -1 << 32, math.MinInt + 1, math.MinInt, count, count + 1, 2*count - 1, 2 * count, 1<<40 + count, math.MaxInt - 1, math.MaxInt}
}

// layersOutside are no indexes of so many layers: next to both ends of their range, and at those of int.
func layersOutside(number int) []int {
	return []int{-1, -2, -number, -number - 1, -1 << 32, math.MinInt + 1, math.MinInt, number, number + 1, 2*number + 1, 1 << 32, 1<<32 + number - 1, math.MaxInt - 1, math.MaxInt}
}

// layerNumbersOutside are no numbers of layers: next to both ends of their range, and at those of int.
func layerNumbersOutside() []int {
	return []int{-1, -2, spoiledNumber, -mostInPart, -mostInPart - 1, -1 << 32, -1<<32 + 2, math.MinInt + 1, math.MinInt, mostInPart + 1, mostInPart + 2, 2 * mostInPart, 1 << 8, 1 << 32, 1<<32 + 2, math.MaxInt - 1, math.MaxInt}
}

// noParts break each condition of parts, at each place of both lists.
func noParts() []partLists {
	list := []partLists{{}, {[]int{}, []int{}}, partsAt(-1, 1), partsAt(1, -1), partsAt(7, 0), partsAt(0, 7), partsAt(7, -1), partsAt(-1, 7), partsAt(math.MinInt, math.MaxInt), partsAt(math.MaxInt, math.MaxInt), partsAt(math.MinInt, math.MinInt)}
	for number := range 2*mostParts + 2 {
		for other := range 2*mostParts + 2 {
			if number == other && number >= 1 && number <= mostParts {
				continue
			}
			for _, layers := range []int{0, 1, 2, mostInPart} {
				list = append(list, partLists{equalRow(number, layers), equalRow(other, layers)})
			}
		}
	}
	for _, number := range []int{16, 1 << 8, 1<<8 + 1, 1<<16 + 2} {
		list = append(list, equalParts(number, 0, 0), equalParts(number, 1, 0), equalParts(number, 1, 1))
	}
	for _, l := range []partLists{partsAt(0, 0), partsAt(1, 1), partsAt(2, 1, 1, 1), partsAt(0, 3, 2, 0, 1, 1), equalParts(mostParts-1, 2, 3), equalParts(mostParts, 0, 0), equalParts(mostParts, 2, 2), equalParts(mostParts, mostInPart, mostInPart)} {
		for part := range l.a {
			for _, n := range layerNumbersOutside() {
				list = append(list, l.with(part, n, l.b[part]), l.with(part, l.a[part], n), l.with(part, n, n), l.with(part, n, -n))
			}
		}
	}
	return list
}

// sampleOrders are orders of the sample parts: all of those that have few, and some of the others.
func sampleOrders() []string {
	list := []string{}
	for _, l := range sampleParts() {
		for _, n := range l.ranksOf() {
			list = append(list, l.exactNth(n))
		}
	}
	return list
}

// textsOf returns all texts with up to a number of letters of some choices.
func textsOf(most int, letters string) []string {
	list, last := []string{""}, []string{""}
	for range most {
		longer := []string{}
		for _, s := range last {
			for i := range len(letters) {
				longer = append(longer, s+letters[i:i+1])
			}
		}
		list, last = append(list, longer...), longer
	}
	return list
}

// otherLetters are texts that no orders have: all bytes but those of orders, and letters and signs of more than a byte, some of them alike or with a byte of orders in their numbers.
func otherLetters() []string {
	list := []string{"ä", "é", "\u0430", "\u0061\u0301", "\uff41", "\uff42", "\uff5c", "\u2223", "\u0161", "\u0162", "\u017c", "\u6162", "\U0001f9ca", "\ufeff", "\u00a0", "\u2028", "\xff\xfe", "\xed\xa0\x80", "\r\n", "||||", "|||||", "aaaaaaa", "bbbbbbb"}
	for c := range 256 {
		if !strings.Contains("ab|", string(rune(c))) {
			list = append(list, string([]byte{byte(c)}))
		}
	}
	return list
}

// fewOrders are some texts that are orders of parts, of all numbers of them.
func fewOrders() []string {
	return []string{"", "a", "b", "ab", "ba", "|", "a|", "|b", "ab|ba", "aabab|bba", "a||b", "|ab|", "aaaaaabbbbbb", "abababababab|babababababa", "a|b|a|b", "|||", "||ab|", "aab|ab|b|bbaa", "bbbbbbaaaaaa|bbbbbbaaaaaa|bbbbbbaaaaaa|bbbbbbaaaaaa"}
}

// noOrders break each condition of orders, at each place of a text.
func noOrders() []string {
	list := []string{
		"A", "B", "AB", "Ab|ba", "ab|BA", " ", " ab", "ab ", "a b", "ab | ba", "ab, ba", "ab/ba", "ab\\ba", "ab;ba", "a\x00", "\x00", "0", "1", "c", "abc", "`", "ab|c", "c|ab", "ab\n", "ab\t|ba", "[ab]", "a1b1", "-1", "æ", "|||c", "||| ",
		"||||", "||||||||", "a||||", "||||b", "||a||", "a|b|a|b|", "|a|b|a|b", "a|b|a|b|a", "ab|ab|ab|ab|ab", "a|b||a|b",
		"aaaaaaa", "bbbbbbb", "aaaaaaabbbbbb", "aaaaaabbbbbbb", "aaaaaaabbbbbbb", "abababababababab", "babababababab", "ababababababa", "aaabbbaaabbba", "aaaaaaaa", "aaaaaaaaaaaaa", "bbbbbbbbbbbbb", "aaaaaaabbbbb", "aaaaabbbbbbb",
	}
	for _, times := range []int{7, 8, 12, 13, 64, 1 << 8, 1<<8 + 1, 1<<8 + 6, 1 << 16, 1<<16 + 1, 1<<16 + 6} {
		for _, s := range []string{"a", "b", "ab", "ba", "|||||||", "a|", "|b", "ab|", "a||b", " ", "ä"} {
			list = append(list, strings.Repeat(s, times))
		}
	}
	for _, s := range []string{"a", "b"} {
		seven := strings.Repeat(s, mostInPart+1)
		for _, others := range []string{"", "a", "b", "ab"} {
			for part := range mostParts {
				orders := slices.Repeat([]string{others}, mostParts)
				orders[part] = seven
				list = append(list, strings.Join(orders, "|"), strings.Join(orders[:part+1], "|"), strings.Join(orders[part:], "|"))
			}
		}
	}
	for _, s := range fewOrders() {
		for _, other := range otherLetters() {
			for i := range len(s) + 1 {
				list = append(list, s[:i]+other+s[i:])
				if i < len(s) {
					list = append(list, s[:i]+other+s[i+1:])
				}
			}
		}
		if s != strings.ToUpper(s) {
			list = append(list, strings.ToUpper(s))
		}
	}
	return list
}

// sampleTexts are orders and others.
func sampleTexts() []string {
	return slices.Concat(sampleOrders(), textsOf(8, "ab|"), textsOf(4, "aAb |c\xff"), fewOrders(), noOrders())
}

func wantOrderCount(t *testing.T, l partLists, want int) {
	t.Helper()
	wantNumber(t, l.call("OrderCount"), impl.OrderCount(l.a, l.b), want)
}

func wantNth(t *testing.T, l partLists, n int, want string, wantOk bool) {
	t.Helper()
	if got, ok := impl.OrderNth(l.a, l.b, n); got != want || ok != wantOk {
		t.Fatalf("%s returned %q, %t, not %q, %t", l.call("OrderNth", n), got, ok, want, wantOk)
	}
}

func wantOrderRank(t *testing.T, s string, want int) {
	t.Helper()
	wantNumber(t, onText("OrderRank", s), impl.OrderRank(s), want)
}

// onText returns the text of a call with a text.
func onText(name string, s string) string {
	if len(s) > 100 {
		return fmt.Sprintf("%s(a text of %d bytes)", name, len(s))
	}
	return fmt.Sprintf("%s(%q)", name, s)
}

func wantParts(t *testing.T, s string, want partLists, wantOk bool) {
	t.Helper()
	a, b, ok := impl.OrderParts(s)
	if !(partLists{a, b}).equal(want) || ok != wantOk {
		t.Fatalf("%s returned %s, %s, %t, not %s, %s, %t", onText("OrderParts", s), namedInts(a), namedInts(b), ok, namedInts(want.a), namedInts(want.b), wantOk)
	}
}

func wantOrderBetween(t *testing.T, l partLists, i int, k int, want int) {
	t.Helper()
	wantNumber(t, l.call("OrderBetween", i, k), impl.OrderBetween(l.a, l.b, i, k), want)
}

// wantOrders checks that a text are the orders of parts with a rank.
func wantOrders(t *testing.T, l partLists, n int, s string) {
	t.Helper()
	wantNth(t, l, n, s, true)
	wantOrderRank(t, s, n)
	wantParts(t, s, l, true)
}

// wantNoParts checks that all functions tell that lists are no parts.
func wantNoParts(t *testing.T, l partLists) {
	t.Helper()
	wantOrderCount(t, l, -1)
	for _, n := range []int{0, 1, 2, 5, 1000, -1, -2, math.MinInt, math.MaxInt} {
		wantNth(t, l, n, "", false)
	}
	for _, i := range []int{0, 1, 2, 5, 6, 7, 20, -1, math.MinInt, math.MaxInt} {
		for _, k := range []int{0, 1, 3, 6, -1, math.MaxInt} {
			wantOrderBetween(t, l, i, k, -1)
		}
	}
}

// wantNoOrders checks that a text are no orders of any parts.
func wantNoOrders(t *testing.T, s string) {
	t.Helper()
	wantOrderRank(t, s, -1)
	wantParts(t, s, partLists{}, false)
}

// orderCountOf returns OrderCount of parts, which must not be -1.
func orderCountOf(t *testing.T, l partLists) int {
	t.Helper()
	count := impl.OrderCount(l.a, l.b)
	if count < 1 {
		t.Fatalf("%s returned %d", l.call("OrderCount"), count)
	}
	return count
}

// nthOf returns OrderNth, which must not fail.
func nthOf(t *testing.T, l partLists, n int) string {
	t.Helper()
	s, ok := impl.OrderNth(l.a, l.b, n)
	if !ok {
		t.Fatalf("%s failed", l.call("OrderNth", n))
	}
	return s
}

// partsOf returns OrderParts of a text, which must not fail.
func partsOf(t *testing.T, s string) partLists {
	t.Helper()
	a, b, ok := impl.OrderParts(s)
	if !ok {
		t.Fatalf("%s failed", onText("OrderParts", s))
	}
	return partLists{a, b}
}

// forCounts calls a check with each of the sample parts for which OrderCount is not -1, and its result.
func forCounts(t *testing.T, check func(l partLists, count int)) {
	t.Helper()
	times := 0
	for _, l := range sampleParts() {
		if count := impl.OrderCount(l.a, l.b); count != -1 {
			times++
			check(l, count)
		}
	}
	wantOften(t, times, 2500)
}

// forNths calls a check with each of the sample parts, ranks for which OrderNth succeeds, and its result.
func forNths(t *testing.T, check func(l partLists, n int, s string)) {
	t.Helper()
	times := 0
	for _, l := range sampleParts() {
		for _, n := range slices.Concat(l.ranksOf(), l.ranksOutside()) {
			if s, ok := impl.OrderNth(l.a, l.b, n); ok {
				times++
				check(l, n, s)
			}
		}
	}
	wantOften(t, times, 40000)
}

// forRanks calls a check with each of the sample texts for which OrderRank is not -1, and its result.
func forRanks(t *testing.T, check func(s string, rank int)) {
	t.Helper()
	times := 0
	for _, s := range sampleTexts() {
		if rank := impl.OrderRank(s); rank != -1 {
			times++
			check(s, rank)
		}
	}
	wantOften(t, times, 45000)
}

// forOrderParts calls a check with each of the sample texts for which OrderParts succeeds, and its result.
func forOrderParts(t *testing.T, check func(s string, l partLists)) {
	t.Helper()
	times := 0
	for _, s := range sampleTexts() {
		if a, b, ok := impl.OrderParts(s); ok {
			times++
			check(s, partLists{a, b})
		}
	}
	wantOften(t, times, 45000)
}

// forBetween calls a check with each of the sample parts, layers for which OrderBetween is not -1, and its result.
func forBetween(t *testing.T, check func(l partLists, i int, k int, between int)) {
	t.Helper()
	times := 0
	for _, l := range sampleParts() {
		layersA, layersB := l.layers()
		for i := -1; i <= layersA; i++ {
			for k := -1; k <= layersB; k++ {
				if between := impl.OrderBetween(l.a, l.b, i, k); between != -1 {
					times++
					check(l, i, k, between)
				}
			}
		}
	}
	wantOften(t, times, 100000)
}

func TestOrderMaxAndOrdersMax(t *testing.T) {
	if impl.OrderMax != mostInPart || impl.OrdersMax != mostParts {
		t.Errorf("OrderMax is %d, and OrdersMax %d", impl.OrderMax, impl.OrdersMax)
	}
}

func TestOrderCountExamples(t *testing.T) {
	for _, e := range []struct {
		l    partLists
		want int
	}{
		{partsAt(0, 0), 1}, {partsAt(1, 0), 1}, {partsAt(0, 6), 1}, {partsAt(6, 0), 1}, {partsAt(1, 1), 2}, {partsAt(2, 1), 3}, {partsAt(1, 2), 3}, {partsAt(2, 2), 6}, {partsAt(3, 2), 10}, {partsAt(4, 4), 70}, {partsAt(6, 1), 7}, {partsAt(5, 6), 462}, {partsAt(6, 5), 462}, {partsAt(6, 6), ordersOfMost},
		{partsAt(2, 1, 1, 1), 6}, {partsAt(0, 0, 2, 1), 3}, {partsAt(2, 1, 0, 0), 3}, {partsAt(1, 1, 0, 3, 1, 1), 4}, {partsAt(6, 0, 0, 6), 1}, {partsAt(3, 2, 2, 2, 1, 4), 10 * 6 * 5}, {equalParts(2, 6, 6), 853776}, {equalParts(3, 6, 6), 788889024},
		{equalParts(4, 0, 0), 1}, {equalParts(4, 1, 1), 16}, {equalParts(4, 6, 1), 2401}, {equalParts(4, 6, 0), 1}, {partsAt(6, 6, 6, 6, 6, 6, 0, 0), 788889024}, {equalParts(4, 6, 6), 728933458176},
	} {
		wantOrderCount(t, e.l, e.want)
		wantNumber(t, e.l.call("the test's count"), e.l.count(), e.want)
	}
}

func TestOrderNthExamples(t *testing.T) {
	for n, s := range []string{"aab|ab", "aab|ba", "aba|ab", "aba|ba", "baa|ab", "baa|ba"} {
		wantOrders(t, partsAt(2, 1, 1, 1), n, s)
	}
	for _, e := range []struct {
		l partLists
		n int
		s string
	}{
		{partsAt(0, 0), 0, ""}, {partsAt(1, 0), 0, "a"}, {partsAt(0, 1), 0, "b"}, {partsAt(1, 1), 0, "ab"}, {partsAt(1, 1), 1, "ba"}, {partsAt(6, 0), 0, "aaaaaa"}, {partsAt(0, 6), 0, "bbbbbb"},
		{partsAt(2, 2), 2, "abba"}, {partsAt(2, 2), 3, "baab"}, {partsAt(3, 3), 9, "abbbaa"}, {partsAt(3, 3), 10, "baaabb"}, {partsAt(6, 1), 3, "aaabaaa"}, {partsAt(1, 6), 3, "bbbabbb"},
		{partsAt(6, 6), 0, "aaaaaabbbbbb"}, {partsAt(6, 6), 1, "aaaaababbbbb"}, {partsAt(6, 6), 461, "abbbbbbaaaaa"}, {partsAt(6, 6), 462, "baaaaaabbbbb"}, {partsAt(6, 6), 923, "bbbbbbaaaaaa"},
		// Parts without layers: alone, first, in the middle, last, two in a row, and all of them.
		{partsAt(0, 0, 0, 0), 0, "|"}, {equalParts(3, 0, 0), 0, "||"}, {equalParts(4, 0, 0), 0, "|||"}, {partsAt(0, 0, 1, 1), 1, "|ba"}, {partsAt(1, 1, 0, 0), 1, "ba|"}, {partsAt(0, 0, 2, 1, 0, 0), 1, "|aba|"}, {partsAt(1, 1, 0, 0, 1, 1), 2, "ba||ab"}, {partsAt(1, 1, 0, 0, 0, 0, 1, 1), 1, "ab|||ba"},
		{partsAt(0, 3, 2, 0), 0, "bbb|aa"}, {partsAt(0, 3, 1, 1, 2, 0), 1, "bbb|ba|aa"}, {partsAt(1, 1, 0, 3, 2, 0, 1, 1), 1, "ab|bbb|aa|ba"}, {partsAt(1, 1, 0, 3, 2, 0, 1, 1), 2, "ba|bbb|aa|ab"}, {equalParts(4, 6, 0), 0, "aaaaaa|aaaaaa|aaaaaa|aaaaaa"},
		{equalParts(4, 6, 6), 0, "aaaaaabbbbbb|aaaaaabbbbbb|aaaaaabbbbbb|aaaaaabbbbbb"}, {equalParts(4, 6, 6), 924, "aaaaaabbbbbb|aaaaaabbbbbb|aaaaababbbbb|aaaaaabbbbbb"}, {equalParts(4, 6, 6), 923, "aaaaaabbbbbb|aaaaaabbbbbb|aaaaaabbbbbb|bbbbbbaaaaaa"},
		{equalParts(4, 6, 6), 364466729088, "baaaaaabbbbb|aaaaaabbbbbb|aaaaaabbbbbb|aaaaaabbbbbb"}, {equalParts(4, 6, 6), 364466729087, "abbbbbbaaaaa|bbbbbbaaaaaa|bbbbbbaaaaaa|bbbbbbaaaaaa"}, {equalParts(4, 6, 6), 728933458174, "bbbbbbaaaaaa|bbbbbbaaaaaa|bbbbbbaaaaaa|bbbbbabaaaaa"}, {equalParts(4, 6, 6), 728933458175, "bbbbbbaaaaaa|bbbbbbaaaaaa|bbbbbbaaaaaa|bbbbbbaaaaaa"},
	} {
		wantOrders(t, e.l, e.n, e.s)
	}
	for _, l := range []partLists{partsAt(0, 0), partsAt(6, 0), partsAt(1, 1), partsAt(2, 1, 1, 1), equalParts(4, 0, 0), equalParts(4, 6, 6)} {
		for _, n := range l.ranksOutside() {
			wantNth(t, l, n, "", false)
		}
	}
}

func TestOrderRankAndPartsExamples(t *testing.T) {
	for _, e := range []struct {
		s string
		n int
		l partLists
	}{
		{"", 0, partsAt(0, 0)}, {"|", 0, equalParts(2, 0, 0)}, {"||", 0, equalParts(3, 0, 0)}, {"|||", 0, equalParts(4, 0, 0)}, {"a", 0, partsAt(1, 0)}, {"b", 0, partsAt(0, 1)}, {"ba", 1, partsAt(1, 1)}, {"bbaa", 5, partsAt(2, 2)}, {"|a", 0, partsAt(0, 0, 1, 0)}, {"b|", 0, partsAt(0, 1, 0, 0)}, {"ba||ba", 3, partsAt(1, 1, 0, 0, 1, 1)}, {"||ba", 1, partsAt(0, 0, 0, 0, 1, 1)}, {"ba||", 1, partsAt(1, 1, 0, 0, 0, 0)}, {"ba|ba|ba|ba", 15, equalParts(4, 1, 1)}, {"aaabaaa|b", 3, partsAt(6, 1, 0, 1)},
	} {
		wantOrderRank(t, e.s, e.n)
		wantParts(t, e.s, e.l, true)
	}
	for _, s := range []string{"||||", "A", "aB", " ", "ab ", " ab", "a b", "ab\n", "c", "aaaaaaa", "bbbbbbb", "aaaaaaab", "ab|aaaaaaa", "bbbbbbb|ab", "a|a|a|a|a", "ä", "a\x00b", "\xff", "ab,ab", "a｜b"} {
		wantNoOrders(t, s)
	}
}

func TestOrderBetweenExamples(t *testing.T) {
	for _, e := range []struct {
		l          partLists
		i, k, want int
	}{
		{partsAt(1, 1), 0, 0, 1}, {partsAt(2, 1), 0, 0, 2}, {partsAt(2, 1), 1, 0, 1}, {partsAt(1, 2), 0, 0, 1}, {partsAt(1, 2), 0, 1, 2}, {partsAt(2, 2), 0, 0, 3}, {partsAt(2, 2), 0, 1, 5}, {partsAt(2, 2), 1, 0, 1}, {partsAt(2, 2), 1, 1, 3},
		{partsAt(6, 6), 0, 0, 462}, {partsAt(6, 6), 5, 5, 462}, {partsAt(6, 6), 0, 5, 923}, {partsAt(6, 6), 5, 0, 1},
		// In the same part of several ones, in a lesser part, and in a greater one.
		{equalParts(2, 1, 1), 0, 0, 2}, {equalParts(2, 1, 1), 1, 1, 2}, {equalParts(2, 1, 1), 0, 1, 4}, {equalParts(2, 1, 1), 1, 0, 0}, {partsAt(2, 2, 1, 1), 0, 0, 6}, {partsAt(2, 2, 1, 1), 1, 1, 6}, {partsAt(2, 2, 1, 1), 1, 2, 12}, {partsAt(2, 2, 1, 1), 2, 1, 0}, {partsAt(2, 2, 1, 1), 2, 2, 6},
		// In parts without layers of one core, and behind parts without layers of both.
		{partsAt(2, 0, 1, 1), 0, 0, 2}, {partsAt(2, 0, 1, 1), 1, 0, 2}, {partsAt(2, 0, 1, 1), 2, 0, 1}, {partsAt(0, 2, 2, 1), 0, 1, 0}, {partsAt(0, 2, 2, 1), 0, 2, 2}, {partsAt(0, 2, 2, 1), 1, 2, 1}, {partsAt(0, 0, 2, 1), 0, 0, 2}, {partsAt(0, 0, 0, 0, 2, 1), 1, 0, 1}, {partsAt(2, 0, 0, 0, 0, 2), 1, 1, 1}, {partsAt(0, 2, 0, 0, 2, 0), 0, 0, 0}, {partsAt(1, 1, 3, 0, 0, 0, 0, 3), 3, 1, 2},
		{equalParts(4, 6, 6), 0, 0, 364466729088}, {equalParts(4, 6, 6), 23, 23, 364466729088}, {equalParts(4, 6, 6), 0, 23, 728933458176}, {equalParts(4, 6, 6), 5, 6, 728933458176}, {equalParts(4, 6, 6), 6, 5, 0}, {equalParts(4, 6, 6), 23, 0, 0}, {equalParts(4, 6, 6), 23, 18, 788889024}, {equalParts(4, 6, 6), 12, 17, 728144569152},
	} {
		wantOrderBetween(t, e.l, e.i, e.k, e.want)
	}
	for _, e := range []struct {
		l    partLists
		i, k int
	}{
		{partsAt(0, 0), 0, 0}, {partsAt(2, 0), 0, 0}, {partsAt(0, 2), 0, 0}, {partsAt(2, 1), 2, 0}, {partsAt(2, 1), 0, 1}, {partsAt(2, 1), -1, 0}, {partsAt(2, 1), 0, -1}, {partsAt(2, 1), math.MinInt, 0}, {partsAt(2, 1), 0, math.MinInt}, {partsAt(2, 1), math.MaxInt, 0}, {partsAt(2, 1), 0, math.MaxInt},
		{equalParts(4, 6, 6), 24, 0}, {equalParts(4, 6, 6), 0, 24}, {equalParts(4, 6, 6), 24, 24}, {equalParts(4, 6, 0), 0, 0}, {equalParts(4, 0, 6), 0, 0}, {equalParts(4, 0, 0), 0, 0}, {partsAt(2, 1, 0, 0), 2, 0}, {partsAt(0, 0, 2, 1), 0, 1},
	} {
		wantOrderBetween(t, e.l, e.i, e.k, -1)
	}
}

// TestOrdersAreAllOrdersSorted compares with all orders of short parts, one by one.
func TestOrdersAreAllOrdersSorted(t *testing.T) {
	times := 0
	for _, l := range shortParts() {
		all := l.allOrders()
		wantOrderCount(t, l, len(all))
		for n, s := range all {
			times++
			wantOrders(t, l, n, s)
		}
		for _, n := range l.ranksOutside() {
			wantNth(t, l, n, "", false)
		}
		layersA, layersB := l.layers()
		for i := range layersA {
			for k := range layersB {
				wantOrderBetween(t, l, i, k, timesAhead(all, i, k))
			}
		}
	}
	wantNumber(t, "the number of orders", times, 3431+69*69+19*19*19+5*5*5*5+9*9*9*9)
}

// TestOrdersOfManyAreExact looks at parts with too many orders to look at all of them.
func TestOrdersOfManyAreExact(t *testing.T) {
	times := 0
	for _, l := range sampleParts() {
		wantOrderCount(t, l, l.count())
		for _, n := range l.ranksOf() {
			s := l.exactNth(n)
			wantNumber(t, "the test's rank", l.exactRank(s), n)
			wantOrders(t, l, n, s)
			if l.count() > ordersOfMost {
				times++
			}
		}
		for _, n := range l.ranksOutside() {
			wantNth(t, l, n, "", false)
		}
	}
	wantOften(t, times, 10000)
}

func TestOrderBetweenIsExact(t *testing.T) {
	for _, l := range sampleParts() {
		layersA, layersB := l.layers()
		for i := range layersA {
			for k := range layersB {
				wantOrderBetween(t, l, i, k, l.exactBetween(i, k))
			}
		}
	}
}

func TestNoSuchLayers(t *testing.T) {
	for _, l := range sampleParts() {
		layersA, layersB := l.layers()
		inside := []int{0, 1, layersA - 1, layersB - 1}
		for _, i := range layersOutside(layersA) {
			for _, k := range slices.Concat(inside, layersOutside(layersB)) {
				wantOrderBetween(t, l, i, k, -1)
			}
		}
		for _, k := range layersOutside(layersB) {
			for _, i := range inside {
				wantOrderBetween(t, l, i, k, -1)
			}
		}
	}
}

// TestEveryTextIsOrdersOrNot compares with a second way to read a text.
func TestEveryTextIsOrdersOrNot(t *testing.T) {
	orders, others := 0, 0
	for _, s := range sampleTexts() {
		l, ok := partsIn(s)
		if !ok {
			others++
			wantNoOrders(t, s)
			continue
		}
		orders++
		wantParts(t, s, l, true)
		wantOrderRank(t, s, l.exactRank(s))
	}
	wantOften(t, orders, 45000)
	wantOften(t, others, 50000)
}

func TestNoOrders(t *testing.T) {
	none := noOrders()
	for _, s := range none {
		if _, ok := partsIn(s); ok {
			t.Fatalf("%q are orders", s)
		}
		wantNoOrders(t, s)
	}
	wantOften(t, len(none), 50000)
}

// TestEveryNumberOfLayersOfAPart has numbers in the range and beyond both ends as those of a part alone, ahead of others, and behind them.
func TestEveryNumberOfLayersOfAPart(t *testing.T) {
	numbers := append(layerNumbersOutside(), steps(mostInPart+1, 0, 1)...)
	valid := 0
	for _, a := range numbers {
		for _, b := range numbers {
			for _, l := range []partLists{partsAt(a, b), partsAt(a, b, 2, 1), partsAt(2, 1, a, b), partsAt(0, 0, a, b, 2, 1, 1, 1), partsAt(1, 1, 2, 1, 0, 0, a, b)} {
				if !l.isParts() {
					wantNoParts(t, l)
					continue
				}
				valid++
				wantOrderCount(t, l, l.count())
			}
		}
	}
	wantNumber(t, "the number of valid lists", valid, 5*(mostInPart+1)*(mostInPart+1))
}

func TestEveryNumberOfParts(t *testing.T) {
	for number := range 2*mostParts + 2 {
		for other := range 2*mostParts + 2 {
			for _, layers := range []int{0, 1, mostInPart} {
				l := partLists{equalRow(number, layers), equalRow(other, layers)}
				if number == other && number >= 1 && number <= mostParts {
					wantOrderCount(t, l, l.count())
					wantOrders(t, l, l.count()-1, l.exactNth(l.count()-1))
				} else {
					wantNoParts(t, l)
				}
			}
			s := strings.Repeat("|", number)
			if number < mostParts {
				wantOrders(t, equalParts(number+1, 0, 0), 0, s)
			} else {
				wantNoOrders(t, s)
			}
		}
	}
}

func TestNoParts(t *testing.T) {
	none := noParts()
	for _, l := range none {
		if l.isParts() {
			t.Fatalf("%s: these are parts", l.call("the test"))
		}
		wantNoParts(t, l)
	}
	wantOften(t, len(none), 1500)
}

// TestSamplePartsAreOfAllKinds looks at the test itself.
func TestSamplePartsAreOfAllKinds(t *testing.T) {
	times := map[string]int{}
	for _, l := range sampleParts() {
		empty := map[string][]bool{}
		for part, a := range l.a {
			b := l.b[part]
			empty["the first core alone"] = append(empty["the first core alone"], a == 0 && b > 0)
			empty["the second core alone"] = append(empty["the second core alone"], a > 0 && b == 0)
			empty["both"] = append(empty["both"], a == 0 && b == 0)
		}
		for core, parts := range empty {
			for _, kind := range kindsOfParts(parts) {
				times[kind+" without layers of "+core]++
			}
		}
	}
	for _, core := range []string{"the first core alone", "the second core alone", "both"} {
		for _, kind := range []string{"one part", "first, but not last", "last, but not first", "in the middle", "two in a row", "all of several"} {
			// A single part without layers of both cores, and several ones of each number, are all there are.
			if times[kind+" without layers of "+core] < 3 {
				t.Errorf("only %d parts are of the kind: %s without layers of %s", times[kind+" without layers of "+core], kind, core)
			}
		}
	}
}

// kindsOfParts tells where parts are of some kind.
func kindsOfParts(parts []bool) []string {
	kinds := []string{}
	add := func(kind string, is bool) {
		if is {
			kinds = append(kinds, kind)
		}
	}
	last := len(parts) - 1
	add("one part", last == 0 && parts[0])
	add("first, but not last", parts[0] && !parts[last])
	add("last, but not first", parts[last] && !parts[0])
	add("in the middle", last > 1 && slices.Contains(parts[1:last], true) && !parts[0] && !parts[last])
	add("all of several", last > 0 && !slices.Contains(parts, false))
	for i := range last {
		add("two in a row", parts[i] && parts[i+1])
	}
	return kinds
}

func TestP186OrderCount(t *testing.T) {
	forCounts(t, func(l partLists, count int) {
		wantOrderCount(t, l.exchanged(), count)
		number := len(l.a)
		for k := 1; k < number; k++ {
			wantNumber(t, l.call("OrderCount"), count, orderCountOf(t, l.part(0, k))*orderCountOf(t, l.part(k, number)))
		}
		wantOrderCount(t, partLists{l.a, equalRow(number, 0)}, 1)
		wantOrderCount(t, partLists{equalRow(number, 0), l.b}, 1)
	})
}

func TestP187OrderCountOfASinglePart(t *testing.T) {
	for a := 1; a <= mostInPart; a++ {
		for b := 1; b <= mostInPart; b++ {
			wantOrderCount(t, partsAt(a, b), orderCountOf(t, partsAt(a-1, b))+orderCountOf(t, partsAt(a, b-1)))
		}
	}
}

func TestP188RankAndPartsOfTheNthOrders(t *testing.T) {
	forNths(t, func(l partLists, n int, s string) {
		wantOrderRank(t, s, n)
		wantParts(t, s, l, true)
	})
}

func TestP189TheNextOrdersStandBehind(t *testing.T) {
	next := 0
	forNths(t, func(l partLists, n int, s string) {
		behind, ok := impl.OrderNth(l.a, l.b, n+1)
		if ok != (n+1 < orderCountOf(t, l)) {
			t.Fatalf("%s returned %t", l.call("OrderNth", n+1), ok)
		}
		if !ok {
			return
		}
		next++
		if strings.Compare(s, behind) >= 0 || len(s) != len(behind) {
			t.Fatalf("%s returned %q, and that of the next rank %q", l.call("OrderNth", n), s, behind)
		}
	})
	wantOften(t, next, 30000)
}

func TestP190TheFirstAndTheLastOrders(t *testing.T) {
	forCounts(t, func(l partLists, count int) {
		first, last := []string{}, []string{}
		for part, a := range l.a {
			allA, allB := strings.Repeat("a", a), strings.Repeat("b", l.b[part])
			first, last = append(first, allA+allB), append(last, allB+allA)
		}
		wantNth(t, l, 0, strings.Join(first, "|"), true)
		wantNth(t, l, count-1, strings.Join(last, "|"), true)
		wantNth(t, l, count, "", false)
	})
}

func TestP191TheOrdersOfARank(t *testing.T) {
	forRanks(t, func(s string, rank int) {
		l := partsOf(t, s)
		if count := orderCountOf(t, l); rank < 0 || rank >= count {
			t.Fatalf("%s returned %d, but %s %d", onText("OrderRank", s), rank, l.call("OrderCount"), count)
		}
		wantNth(t, l, rank, s, true)
	})
}

func TestP192RankOfLettersExchanged(t *testing.T) {
	exchange := strings.NewReplacer("a", "b", "b", "a")
	forRanks(t, func(s string, rank int) {
		wantOrderRank(t, exchange.Replace(s), orderCountOf(t, partsOf(t, s))-1-rank)
	})
}

func TestP193PartsHaveAllLayersOfAText(t *testing.T) {
	forOrderParts(t, func(s string, l partLists) {
		signs := strings.Count(s, "|")
		wantNumber(t, "the number of parts of the first core in "+onText("OrderParts", s), len(l.a), signs+1)
		wantNumber(t, "the number of parts of the second core in "+onText("OrderParts", s), len(l.b), signs+1)
		layersA, layersB := l.layers()
		wantNumber(t, "the number of layers in "+onText("OrderParts", s), layersA+layersB, len(s)-signs)
		for part, order := range strings.Split(s, "|") {
			wantNumber(t, "the number of layers of a part in "+onText("OrderParts", s), l.a[part]+l.b[part], len(order))
		}
	})
}

func TestP194BetweenExchanged(t *testing.T) {
	forBetween(t, func(l partLists, i int, k int, between int) {
		wantOrderBetween(t, l.exchanged(), k, i, orderCountOf(t, l)-between)
	})
}

func TestP195BetweenNextLayers(t *testing.T) {
	less, more := 0, 0
	forBetween(t, func(l partLists, i int, k int, between int) {
		if next := impl.OrderBetween(l.a, l.b, i+1, k); next != -1 {
			if next > between {
				t.Fatalf("%s returned %d, and that of the next layer of the first core %d", l.call("OrderBetween", i, k), between, next)
			}
			less++
		}
		if next := impl.OrderBetween(l.a, l.b, i, k+1); next != -1 {
			if next < between {
				t.Fatalf("%s returned %d, and that of the next layer of the second core %d", l.call("OrderBetween", i, k), between, next)
			}
			more++
		}
	})
	wantOften(t, less, 80000)
	wantOften(t, more, 80000)
}

func TestP196BetweenIsANumberOfOrders(t *testing.T) {
	times := 0
	forBetween(t, func(l partLists, i int, k int, between int) {
		count := orderCountOf(t, l)
		if count > 40 {
			return
		}
		times++
		all := []string{}
		for n := range count {
			all = append(all, nthOf(t, l, n))
		}
		wantNumber(t, l.call("OrderBetween", i, k), between, timesAhead(all, i, k))
	})
	wantOften(t, times, 8000)
}

func TestP197TheFirstPartOfTheNthOrders(t *testing.T) {
	times := 0
	forNths(t, func(l partLists, n int, s string) {
		if len(l.a) < 2 {
			return
		}
		times++
		first, _, _ := strings.Cut(s, "|")
		wantNth(t, l.part(0, 1), n/orderCountOf(t, l.part(1, len(l.a))), first, true)
	})
	wantOften(t, times, 30000)
}

func TestP198CountWithOneLayerMore(t *testing.T) {
	times := 0
	forCounts(t, func(l partLists, count int) {
		for part, a := range l.a {
			if a == mostInPart {
				wantNoParts(t, l.with(part, a+1, l.b[part]))
				continue
			}
			times++
			if more := l.with(part, a+1, l.b[part]); orderCountOf(t, more) < count {
				t.Fatalf("%s is less than %d, that of %s", more.call("OrderCount"), count, l.call("OrderCount"))
			}
		}
	})
	wantOften(t, times, 5000)
}

func TestP199BetweenLayersOfUnlikeParts(t *testing.T) {
	lesser, greater := 0, 0
	forBetween(t, func(l partLists, i int, k int, between int) {
		partOfI, partOfK := layersIn(l.a)[i][0], layersIn(l.b)[k][0]
		if partOfI < partOfK {
			lesser++
			wantNumber(t, l.call("OrderBetween", i, k), between, orderCountOf(t, l))
		}
		if partOfI > partOfK {
			greater++
			wantNumber(t, l.call("OrderBetween", i, k), between, 0)
		}
	})
	wantOften(t, lesser, 30000)
	wantOften(t, greater, 30000)
}

func TestP200BetweenTheFirstLayersOfASinglePart(t *testing.T) {
	for a := 1; a <= mostInPart; a++ {
		for b := 1; b <= mostInPart; b++ {
			l := partsAt(a, b)
			beginning := 0
			for n := range orderCountOf(t, l) {
				if strings.HasPrefix(nthOf(t, l, n), "a") {
					beginning++
				}
			}
			wantOrderBetween(t, l, 0, 0, beginning)
			wantOrderBetween(t, l, 0, 0, orderCountOf(t, partsAt(a-1, b)))
		}
	}
}

func TestP201AFurtherPart(t *testing.T) {
	times := 0
	forOrderParts(t, func(s string, l partLists) {
		further := s + "|a"
		if len(l.a) == mostParts {
			wantNoOrders(t, further)
			return
		}
		times++
		wantParts(t, further, partLists{slices.Concat(l.a, []int{1}), slices.Concat(l.b, []int{0})}, true)
	})
	wantOften(t, times, 20000)
}

// letterNumbers returns the bytes of a text as a list of numbers.
func letterNumbers(s string) []int {
	return eachAs([]byte(s), func(c byte) int { return int(c) })
}

// partMemory has calls of all functions with lists of numbers of layers, one list as both or as one of them, so that they succeed and fail.
func partMemory(lists [][]int) memoryCheck[int] {
	calls := map[string]listCall[int]{}
	for _, other := range [][]int{{2}, {2, 1}, {1, 0, 3}, {1, 0, 2, 6}} {
		for name, both := range twoLists(other) {
			name = fmt.Sprint(" of ", name, ", ", len(other))
			calls["OrderCount"+name] = func(list []int) ([]int, bool) { return []int{impl.OrderCount(both(list))}, true }
			for _, n := range []int{-1, 0, 1, 5} {
				calls[fmt.Sprint("OrderNth", name, ", ", n)] = func(list []int) ([]int, bool) {
					a, b := both(list)
					s, ok := impl.OrderNth(a, b, n)
					return letterNumbers(s), ok
				}
				calls[fmt.Sprint("OrderBetween", name, ", ", n)] = func(list []int) ([]int, bool) {
					a, b := both(list)
					return []int{impl.OrderBetween(a, b, n, 1)}, true
				}
			}
		}
	}
	return memoryCheck[int]{lists, calls, spoiledNumber, namedInts}
}

// layerLists are lists of numbers of layers of a core, and halves of them are, too; others have a number out of range, or are too long.
func layerLists() [][]int {
	lists := slices.Concat(listsOf(0, 0), listsOf(1, -1, 0, 1, 6, 7), listsOf(2, 0, 1, 3, 6), listsOf(3, 0, 2, 6), listsOf(4, 0, 1, 6))
	for _, number := range []int{5, 6, 7, 8, 9, 12} {
		lists = append(lists, equalRow(number, 1), steps(number, 0, 1), steps(number, 6, -1), peakRow(number, 1, 6), equalRow(number, -1))
	}
	return slices.Concat(lists, spoiledAt([]int{1, 2, 3, 4}, []int{-1, 7, math.MinInt, math.MaxInt}))
}

func TestOrderFunctionsWriteNothing(t *testing.T) {
	partMemory(slices.Concat(layerLists(), eachAs(sampleParts(), func(l partLists) []int { return slices.Concat(l.a, l.b) }))).wantNothingWritten(t)
}

func TestOrderFunctionsShareNothing(t *testing.T) {
	partMemory(layerLists()).wantNothingShared(t)
}

func TestOrderFunctionsReadNothingBehindAList(t *testing.T) {
	partMemory(layerLists()).wantNothingReadBehind(t)
}

// TestOrderPartsResultsShareNothing looks at both results of a call, and at those of several calls.
func TestOrderPartsResultsShareNothing(t *testing.T) {
	for _, s := range slices.Concat(thinned(sampleOrders(), 5000), fewOrders(), thinned(noOrders(), 500)) {
		a, b, _ := impl.OrderParts(s)
		wantApartInACall(t, onText("OrderParts", s), spoiledNumber, a, b)
		first := func() []int {
			a, _, _ := impl.OrderParts(s)
			return a
		}
		second := func() []int {
			_, b, _ := impl.OrderParts(s)
			return b
		}
		wantApart(t, onText("OrderParts", s), spoiledNumber, first, second)
	}
}
