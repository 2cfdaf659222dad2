package tests

import (
	"math"
	"slices"
	"strconv"
	"testing"

	"loop.example/icecores/impl"
)

const (
	deepest    = 30000
	mostPieces = 20
)

// spoiled is no piece; the tests write it over memory that no function may use.
var spoiled = impl.Piece{Top: -7, Bottom: -8}

func piece(top int, bottom int) impl.Piece {
	return impl.Piece{Top: top, Bottom: bottom}
}

// coreOf returns the pieces between each two depths of a list.
func coreOf(depths ...int) []impl.Piece {
	core := []impl.Piece{}
	for i := 0; i+1 < len(depths); i += 2 {
		core = append(core, piece(depths[i], depths[i+1]))
	}
	return core
}

// rowOf returns a number of pieces with a length and a gap behind each, from a top on.
func rowOf(number int, top int, length int, gap int) []impl.Piece {
	core := []impl.Piece{}
	for range number {
		core = append(core, piece(top, top+length))
		top += length + gap
	}
	return core
}

func namedCore(core []impl.Piece) string {
	return listText(core, 5*mostPieces, "pieces", func(p impl.Piece) string { return strconv.Itoa(p.Top) + "-" + strconv.Itoa(p.Bottom) })
}

// namedCall returns the text of a call with a core and depths.
func namedCall(name string, core []impl.Piece, depths ...int) string {
	return callText(name, namedCore(core), depths...)
}

// coresWithin returns all cores with depths from a first to a last one.
func coresWithin(first int, last int) [][]impl.Piece {
	list := [][]impl.Piece{{}}
	for top := first; top < last; top++ {
		for bottom := top + 1; bottom <= last; bottom++ {
			for _, rest := range coresWithin(bottom, last) {
				list = append(list, slices.Concat(coreOf(top, bottom), rest))
			}
		}
	}
	return list
}

// longCores have as many pieces as are allowed or one less, or reach from end to end.
func longCores() [][]impl.Piece {
	both := slices.Concat(rowOf(7, 0, 3, 0), rowOf(6, 25, 2, 1), rowOf(7, 29900, 10, 0))
	return [][]impl.Piece{
		coreOf(0, deepest), coreOf(0, 1, 29999, deepest), coreOf(0, 15000, 15000, deepest), coreOf(0, 29999), coreOf(1, deepest), coreOf(1, 29999),
		coreOf(0, 10, 10, 25, 30, 31), coreOf(100, 200, 200, 300, 301, 400, 400, 401, 29000, 29500),
		rowOf(mostPieces, 0, 1500, 0), rowOf(mostPieces, 0, 1499, 1), rowOf(mostPieces, 1, 1499, 1), rowOf(mostPieces, 0, 1, 1), rowOf(mostPieces, 29980, 1, 0),
		rowOf(mostPieces-1, 0, 1500, 0), rowOf(mostPieces-1, 0, 1400, 100), rowOf(mostPieces-1, 5, 2, 0), rowOf(mostPieces-1, 29963, 1, 1),
		both, both[:mostPieces-1], both[1:],
	}
}

// sampleCores returns all cores of a few depths at both ends, and long ones.
func sampleCores() [][]impl.Piece {
	return slices.Concat([][]impl.Piece{nil}, coresWithin(0, 7), coresWithin(deepest-5, deepest), longCores())
}

// noCores break each condition of a core alone and with others, at each end of a list and inside.
func noCores() [][]impl.Piece {
	bad := []impl.Piece{
		{}, piece(5, 5), piece(deepest, deepest), piece(6, 5), piece(deepest, 0), piece(1, 0), piece(-1, 0), piece(-1, 5), piece(-2, -1), piece(-1, deepest), spoiled,
		piece(5, deepest+1), piece(0, deepest+1), piece(deepest, deepest+1), piece(deepest+1, deepest+2), piece(-1, deepest+1),
		piece(1<<32, 1<<32+5), piece(0, 1<<32+5), piece(-1<<32, 5), piece(1<<32, 5),
		piece(math.MinInt, math.MaxInt), piece(math.MaxInt, math.MinInt), piece(math.MinInt, math.MinInt), piece(math.MaxInt, math.MaxInt),
		piece(math.MinInt, 5), piece(5, math.MinInt), piece(math.MaxInt, 5), piece(5, math.MaxInt), piece(0, math.MinInt), piece(0, math.MaxInt),
		piece(math.MinInt, math.MinInt+1), piece(math.MaxInt-1, math.MaxInt), piece(math.MinInt, 0), piece(math.MinInt, deepest),
	}
	list := [][]impl.Piece{
		coreOf(0, 10, 9, 20), coreOf(0, 10, 0, 10), coreOf(0, 10, 5, 8), coreOf(5, 8, 0, 10), coreOf(0, 10, 0, 11), coreOf(9, 20, 0, 10), coreOf(10, 20, 0, 10), coreOf(20, 30, 0, 10),
		coreOf(0, 10, 10, 20, 19, 30), coreOf(0, 10, 9, 20, 20, 30), coreOf(0, 10, 20, 30, 10, 20), coreOf(0, 10, 10, 20, 5, 30), coreOf(20, 30, 10, 20, 0, 10), coreOf(10, 20, 0, 10, 20, 30),
		coreOf(0, deepest, 29999, deepest), coreOf(0, 1, 0, deepest), coreOf(29999, deepest, 0, 1),
		rowOf(mostPieces+1, 0, 1, 0), rowOf(mostPieces+1, 0, 1000, 1), rowOf(mostPieces+1, 5, 3, 2), rowOf(2*mostPieces, 0, 1, 0), rowOf(1000, 0, 1, 0), rowOf(deepest, 0, 1, 0),
		slices.Concat(rowOf(mostPieces-1, 0, 1500, 0), coreOf(28499, deepest)), slices.Repeat(coreOf(0, 1), mostPieces), slices.Repeat(coreOf(0, 1), mostPieces+1),
	}
	for _, p := range bad {
		alone := []impl.Piece{p}
		list = append(list, alone, slices.Concat(alone, coreOf(10, 20)), slices.Concat(coreOf(0, 3), alone), slices.Concat(coreOf(0, 3), alone, coreOf(10, 20)), slices.Concat(rowOf(mostPieces-1, 0, 5, 1), alone))
	}
	return list
}

// outsideDepths are no depths: next to both ends, and at those of int.
func outsideDepths() []int {
	return []int{-1, -2, -deepest, -1 << 32, math.MinInt + 1, math.MinInt, deepest + 1, deepest + 2, 1 << 32, 1<<32 + 5, math.MaxInt - 1, math.MaxInt}
}

// nearDepths returns the depths at and next to the ends of all pieces, and both ends of the range, in order.
func nearDepths(core []impl.Piece) []int {
	list := []int{0, 1, deepest - 1, deepest}
	for _, p := range core {
		list = append(list, p.Top-1, p.Top, p.Top+1, p.Bottom-1, p.Bottom, p.Bottom+1)
	}
	list = slices.DeleteFunc(list, func(d int) bool { return d < 0 || d > deepest })
	slices.Sort(list)
	return slices.Compact(list)
}

// thinned returns about a number of elements of a list, from all over it, or all of a shorter one.
func thinned[T any](list []T, number int) []T {
	few := []T{}
	for i := 0; i < len(list); i += 1 + len(list)/number {
		few = append(few, list[i])
	}
	return few
}

// fewDepths returns as many of a list of depths as a test of all threes of them has time for.
func fewDepths(core []impl.Piece) []int {
	return slices.Compact(append(thinned(nearDepths(core), 12), deepest))
}

// forCores calls a check with each of the sample cores.
func forCores(check func(core []impl.Piece)) {
	for _, core := range sampleCores() {
		check(core)
	}
}

// forDepths calls a check with each sample core and each depth near its ends.
func forDepths(check func(core []impl.Piece, depth int)) {
	forCores(func(core []impl.Piece) {
		for _, d := range nearDepths(core) {
			check(core, d)
		}
	})
}

// forRanges calls a check with each sample core and each range between some of the depths near its ends.
func forRanges(check func(core []impl.Piece, top int, bottom int)) {
	forCores(func(core []impl.Piece) {
		few := fewDepths(core)
		for _, top := range few {
			for _, bottom := range few {
				if top <= bottom {
					check(core, top, bottom)
				}
			}
		}
	})
}

// forPlaces calls a check with the two parts of each sample core at each place.
func forPlaces(check func(core []impl.Piece, first []impl.Piece, others []impl.Piece)) {
	forCores(func(core []impl.Piece) {
		for k := range len(core) + 1 {
			check(core, core[:k], core[k:])
		}
	})
}

// forCuts calls a check with each sample core that can be cut, at each depth near its ends, and the cut core.
func forCuts(t *testing.T, check func(core []impl.Piece, depth int, cut []impl.Piece)) {
	t.Helper()
	times := 0
	forDepths(func(core []impl.Piece, depth int) {
		if cut, ok := impl.CoreCut(core, depth); ok {
			times++
			check(core, depth, cut)
		}
	})
	wantOften(t, times, 1000)
}

// forGaps calls a check with each sample core that has gaps, and these.
func forGaps(t *testing.T, check func(core []impl.Piece, gaps []impl.Piece)) {
	t.Helper()
	times := 0
	forCores(func(core []impl.Piece) {
		if gaps := impl.CoreGaps(core); len(gaps) > 0 {
			times++
			check(core, gaps)
		}
	})
	wantOften(t, times, 400)
}

func wantCore(t *testing.T, call string, got []impl.Piece, ok bool, want []impl.Piece, wantOk bool) {
	t.Helper()
	if !slices.Equal(got, want) || ok != wantOk {
		t.Fatalf("%s returned %s, %t, not %s, %t", call, namedCore(got), ok, namedCore(want), wantOk)
	}
}

func wantNumber(t *testing.T, call string, got int, want int) {
	t.Helper()
	if got != want {
		t.Fatalf("%s returned %d, not %d", call, got, want)
	}
}

func wantHas(t *testing.T, core []impl.Piece, depth int, want int) {
	t.Helper()
	wantNumber(t, namedCall("CoreHas", core, depth), impl.CoreHas(core, depth), want)
}

func wantGaps(t *testing.T, core []impl.Piece, want []impl.Piece) {
	t.Helper()
	wantCore(t, namedCall("CoreGaps", core), impl.CoreGaps(core), true, want, true)
}

func wantJoin(t *testing.T, core []impl.Piece, want []impl.Piece, wantOk bool) {
	t.Helper()
	got, ok := impl.CoreJoin(core)
	wantCore(t, namedCall("CoreJoin", core), got, ok, want, wantOk)
}

func wantCut(t *testing.T, core []impl.Piece, depth int, want []impl.Piece, wantOk bool) {
	t.Helper()
	got, ok := impl.CoreCut(core, depth)
	wantCore(t, namedCall("CoreCut", core, depth), got, ok, want, wantOk)
}

func wantBetween(t *testing.T, core []impl.Piece, top int, bottom int, want []impl.Piece, wantOk bool) {
	t.Helper()
	got, ok := impl.CoreBetween(core, top, bottom)
	wantCore(t, namedCall("CoreBetween", core, top, bottom), got, ok, want, wantOk)
}

// wantNoCore checks that every function tells that a list is no core, whatever its other arguments.
func wantNoCore(t *testing.T, list []impl.Piece, depths []int) {
	t.Helper()
	if impl.CoreValid(list) {
		t.Fatalf("%s returned true", namedCall("CoreValid", list))
	}
	wantNumber(t, namedCall("CoreLength", list), impl.CoreLength(list), -1)
	wantGaps(t, list, nil)
	wantJoin(t, list, nil, false)
	for _, d := range depths {
		wantHas(t, list, d, -1)
		wantCut(t, list, d, nil, false)
		for _, e := range depths {
			wantBetween(t, list, d, e, nil, false)
		}
	}
}

// joined returns CoreJoin of a core, which must not fail.
func joined(t *testing.T, core []impl.Piece) []impl.Piece {
	t.Helper()
	got, ok := impl.CoreJoin(core)
	if !ok {
		t.Fatalf("%s failed", namedCall("CoreJoin", core))
	}
	return got
}

// cutOff returns CoreBetween of a core, which must not fail.
func cutOff(t *testing.T, core []impl.Piece, top int, bottom int) []impl.Piece {
	t.Helper()
	got, ok := impl.CoreBetween(core, top, bottom)
	if !ok {
		t.Fatalf("%s failed", namedCall("CoreBetween", core, top, bottom))
	}
	return got
}

// sumOf returns the sum of the lengths of a list of pieces.
func sumOf(list []impl.Piece) int {
	sum := 0
	for _, p := range list {
		sum += p.Bottom - p.Top
	}
	return sum
}

// segments compares the functions with another way: all depths at which anything changes part
// the ice into segments, each is judged alone, and neighbors that are judged alike are one piece.
func segments(core []impl.Piece, others []int, judge func(segment impl.Piece, owner int) int) []impl.Piece {
	marks := slices.Clone(others)
	for _, p := range core {
		marks = append(marks, p.Top, p.Bottom)
	}
	slices.Sort(marks)
	marks = slices.Compact(marks)
	list, last := []impl.Piece{}, -1
	for i := 0; i+1 < len(marks); i++ {
		s := piece(marks[i], marks[i+1])
		owner := slices.IndexFunc(core, func(p impl.Piece) bool { return p.Top <= s.Top && s.Bottom <= p.Bottom })
		kind := judge(s, owner)
		switch {
		case kind == -1:
		case kind == last:
			list[len(list)-1].Bottom = s.Bottom
		default:
			list = append(list, s)
		}
		last = kind
	}
	return list
}

func TestDepthMaxAndPiecesMax(t *testing.T) {
	if impl.DepthMax != deepest || impl.PiecesMax != mostPieces {
		t.Errorf("DepthMax is %d, PiecesMax is %d", impl.DepthMax, impl.PiecesMax)
	}
}

func TestCoreValidExamples(t *testing.T) {
	for _, core := range [][]impl.Piece{
		nil, {}, coreOf(0, 1), coreOf(0, deepest), coreOf(29999, deepest), coreOf(5, 9), coreOf(0, 10, 10, 25, 30, 31), coreOf(0, 1, 1, 2), coreOf(0, 1, 2, 3),
		rowOf(mostPieces, 0, 1, 0), rowOf(mostPieces, 0, 1500, 0), rowOf(mostPieces, 1, 1499, 1),
	} {
		if !impl.CoreValid(core) {
			t.Errorf("%s returned false", namedCall("CoreValid", core))
		}
	}
	forCores(func(core []impl.Piece) {
		if !impl.CoreValid(core) {
			t.Errorf("%s returned false", namedCall("CoreValid", core))
		}
	})
}

func TestNoCores(t *testing.T) {
	depths := append(outsideDepths(), 0, 1, 5, 6, 7, 9, 10, 15, 19, 20, 15000, deepest-1, deepest)
	for _, list := range noCores() {
		wantNoCore(t, list, depths)
	}
}

// TestEveryShortList compares CoreValid with the enumeration of all cores, for every list of up to three pieces at both ends of the range.
func TestEveryShortList(t *testing.T) {
	for _, ends := range [][2]int{{-1, 3}, {deepest - 3, deepest + 1}} {
		cores := map[string]bool{}
		for _, core := range coresWithin(max(ends[0], 0), min(ends[1], deepest)) {
			cores[namedCore(core)] = true
		}
		depths := []int{}
		pieces := []impl.Piece{}
		for top := ends[0]; top <= ends[1]; top++ {
			depths = append(depths, top)
			for bottom := ends[0]; bottom <= ends[1]; bottom++ {
				pieces = append(pieces, piece(top, bottom))
			}
		}
		valid := 0
		check := func(list []impl.Piece) {
			if !cores[namedCore(list)] {
				wantNoCore(t, list, depths)
				return
			}
			valid++
			if !impl.CoreValid(list) {
				t.Fatalf("%s returned false", namedCall("CoreValid", list))
			}
		}
		check(nil)
		for _, a := range pieces {
			check([]impl.Piece{a})
			for _, b := range pieces {
				check([]impl.Piece{a, b})
				for _, c := range pieces {
					check([]impl.Piece{a, b, c})
				}
			}
		}
		wantNumber(t, "the number of valid lists", valid, len(cores))
	}
}

func TestCoreWithoutPieces(t *testing.T) {
	for _, core := range [][]impl.Piece{nil, {}, make([]impl.Piece, 0, 5)} {
		if !impl.CoreValid(core) {
			t.Errorf("CoreValid of a core without pieces returned false")
		}
		wantNumber(t, "CoreLength without pieces", impl.CoreLength(core), 0)
		wantGaps(t, core, nil)
		wantJoin(t, core, nil, true)
		for _, d := range append(outsideDepths(), 0, 1, 29999, deepest) {
			wantHas(t, core, d, -1)
			wantCut(t, core, d, nil, false)
		}
		wantBetween(t, core, 0, 0, nil, true)
		wantBetween(t, core, 0, deepest, nil, true)
		wantBetween(t, core, deepest, deepest, nil, true)
		wantBetween(t, core, 5, 4, nil, false)
		wantBetween(t, core, -1, 4, nil, false)
		wantBetween(t, core, 0, deepest+1, nil, false)
	}
}

func TestCoreLengthExamples(t *testing.T) {
	for _, c := range []struct {
		core []impl.Piece
		want int
	}{
		{coreOf(0, 1), 1}, {coreOf(0, deepest), deepest}, {coreOf(29999, deepest), 1}, {coreOf(5, 9), 4}, {coreOf(0, 10, 10, 25, 30, 31), 26},
		{coreOf(0, 1, 29999, deepest), 2}, {rowOf(mostPieces, 0, 1500, 0), deepest}, {rowOf(mostPieces, 1, 1499, 1), 29980}, {rowOf(mostPieces, 0, 1, 1), 20},
	} {
		wantNumber(t, namedCall("CoreLength", c.core), impl.CoreLength(c.core), c.want)
	}
}

func TestCoreHasExamples(t *testing.T) {
	core := coreOf(0, 10, 10, 25, 30, 31, 29999, deepest)
	for _, c := range []struct{ depth, want int }{
		{0, 0}, {1, 0}, {9, 0}, {10, 1}, {11, 1}, {24, 1}, {25, -1}, {29, -1}, {30, 2}, {31, -1}, {29998, -1}, {29999, 3}, {deepest, -1},
	} {
		wantHas(t, core, c.depth, c.want)
	}
	row := rowOf(mostPieces, 0, 1500, 0)
	for i := range mostPieces {
		wantHas(t, row, 1500*i, i)
		wantHas(t, row, 1500*i+1499, i)
	}
	wantHas(t, coreOf(5, 9), 0, -1)
	wantHas(t, coreOf(5, 9), 4, -1)
}

func TestCoreHasOutside(t *testing.T) {
	forCores(func(core []impl.Piece) {
		for _, d := range append(outsideDepths(), deepest) {
			wantHas(t, core, d, -1)
		}
	})
}

func TestCoreGapsExamples(t *testing.T) {
	for _, c := range []struct{ core, want []impl.Piece }{
		{coreOf(0, 10, 10, 25, 30, 31), coreOf(25, 30)}, {coreOf(5, 9), nil}, {coreOf(0, deepest), nil}, {coreOf(1, 29999), nil},
		{coreOf(0, 1, 1, 2), nil}, {coreOf(0, 1, 2, 3), coreOf(1, 2)}, {coreOf(3, 5, 8, 9, 9, 12, 20, 21), coreOf(5, 8, 12, 20)},
		{coreOf(0, 1, 29999, deepest), coreOf(1, 29999)}, {rowOf(mostPieces, 0, 1500, 0), nil}, {rowOf(mostPieces, 0, 1, 1), rowOf(mostPieces-1, 1, 1, 1)},
		{rowOf(mostPieces, 7, 3, 2), rowOf(mostPieces-1, 10, 2, 3)},
	} {
		wantGaps(t, c.core, c.want)
	}
}

func TestCoreJoinExamples(t *testing.T) {
	for _, c := range []struct{ core, want []impl.Piece }{
		{coreOf(0, 10, 10, 25, 30, 31), coreOf(0, 25, 30, 31)}, {coreOf(5, 9), coreOf(5, 9)}, {coreOf(0, 1, 1, 2), coreOf(0, 2)}, {coreOf(0, 1, 2, 3), coreOf(0, 1, 2, 3)},
		{coreOf(0, 1, 2, 3, 3, 4), coreOf(0, 1, 2, 4)}, {coreOf(0, 1, 1, 2, 2, 3, 4, 5, 5, 9, 9, 10), coreOf(0, 3, 4, 10)}, {coreOf(0, 15000, 15000, deepest), coreOf(0, deepest)},
		{rowOf(mostPieces, 0, 1500, 0), coreOf(0, deepest)}, {rowOf(mostPieces, 29980, 1, 0), coreOf(29980, deepest)}, {rowOf(mostPieces, 0, 1, 1), rowOf(mostPieces, 0, 1, 1)},
	} {
		wantJoin(t, c.core, c.want, true)
	}
}

func TestCoreCutExamples(t *testing.T) {
	core := coreOf(0, 10, 10, 25, 30, 31)
	wantCut(t, core, 1, coreOf(0, 1, 1, 10, 10, 25, 30, 31), true)
	wantCut(t, core, 9, coreOf(0, 9, 9, 10, 10, 25, 30, 31), true)
	wantCut(t, core, 12, coreOf(0, 10, 10, 12, 12, 25, 30, 31), true)
	wantCut(t, core, 24, coreOf(0, 10, 10, 24, 24, 25, 30, 31), true)
	// The Top and the Bottom of pieces, a gap, and behind the last one.
	for _, d := range append(outsideDepths(), 0, 10, 25, 26, 29, 30, 31, 32, 29999, deepest) {
		wantCut(t, core, d, nil, false)
	}
	wantCut(t, coreOf(0, deepest), 1, coreOf(0, 1, 1, deepest), true)
	wantCut(t, coreOf(0, deepest), 29999, coreOf(0, 29999, 29999, deepest), true)
	wantCut(t, coreOf(0, deepest), 0, nil, false)
	wantCut(t, coreOf(0, deepest), deepest, nil, false)
	wantCut(t, coreOf(3, 4), 3, nil, false)
	wantCut(t, coreOf(3, 4), 4, nil, false)
}

func TestCoreCutOfManyPieces(t *testing.T) {
	for _, gap := range []int{0, 1} {
		core := rowOf(mostPieces-1, 0, 10, gap)
		full := slices.Concat(core[:mostPieces-2], coreOf(core[mostPieces-2].Top, core[mostPieces-2].Top+4, core[mostPieces-2].Top+4, core[mostPieces-2].Bottom))
		wantCut(t, core, core[mostPieces-2].Top+4, full, true)
		for _, d := range nearDepths(full) {
			wantCut(t, full, d, nil, false)
		}
	}
	for _, core := range longCores() {
		for _, d := range nearDepths(core) {
			if len(core) == mostPieces {
				wantCut(t, core, d, nil, false)
			}
		}
	}
}

func TestCoreBetweenExamples(t *testing.T) {
	core := coreOf(0, 10, 10, 25, 30, 31)
	for _, c := range []struct {
		top, bottom int
		want        []impl.Piece
	}{
		{0, 31, core}, {0, deepest, core}, {0, 30, core[:2]}, {0, 25, core[:2]}, {0, 10, core[:1]}, {10, 25, core[1:2]}, {10, 31, core[1:]}, {25, 31, core[2:]}, {29, 40, core[2:]}, {30, 31, core[2:]},
		{0, 0, nil}, {10, 10, nil}, {12, 12, nil}, {25, 25, nil}, {27, 27, nil}, {deepest, deepest, nil}, {25, 30, nil}, {26, 29, nil}, {31, 40, nil}, {31, deepest, nil},
		{0, 1, coreOf(0, 1)}, {9, 10, coreOf(9, 10)}, {9, 11, coreOf(9, 10, 10, 11)}, {3, 7, coreOf(3, 7)}, {1, 9, coreOf(1, 9)}, {5, 12, coreOf(5, 10, 10, 12)},
		{9, 30, coreOf(9, 10, 10, 25)}, {24, 31, coreOf(24, 25, 30, 31)}, {24, 30, coreOf(24, 25)}, {1, deepest, coreOf(1, 10, 10, 25, 30, 31)},
	} {
		wantBetween(t, core, c.top, c.bottom, c.want, true)
	}
	wantBetween(t, coreOf(0, deepest), 29999, deepest, coreOf(29999, deepest), true)
	wantBetween(t, coreOf(5, 9), 0, 5, nil, true)
	wantBetween(t, coreOf(5, 9), 0, 6, coreOf(5, 6), true)
	wantBetween(t, coreOf(5, 9), 9, 12, nil, true)
	wantBetween(t, coreOf(5, 9), 8, 12, coreOf(8, 9), true)
	row := rowOf(mostPieces, 0, 1500, 0)
	wantBetween(t, row, 1, 29999, slices.Concat(coreOf(1, 1500), row[1:mostPieces-1], coreOf(28500, 29999)), true)
	wantBetween(t, row, 1500, 28500, row[1:mostPieces-1], true)
}

func TestCoreBetweenOutside(t *testing.T) {
	outside := outsideDepths()
	forCores(func(core []impl.Piece) {
		for _, d := range append(outside, 0, 5, deepest) {
			for _, e := range outside {
				wantBetween(t, core, d, e, nil, false)
				wantBetween(t, core, e, d, nil, false)
			}
		}
		near := nearDepths(core)
		for i, d := range near[1:] {
			wantBetween(t, core, d, near[i], nil, false)
			wantBetween(t, core, d, 0, nil, false)
			wantBetween(t, core, deepest, near[i], nil, near[i] == deepest)
		}
	})
}

func TestFunctionsAgainstSegments(t *testing.T) {
	forCores(func(core []impl.Piece) {
		whole := segments(core, nil, func(_ impl.Piece, owner int) int { return owner })
		wantCore(t, "segments", whole, true, core, true)
		wantNumber(t, namedCall("CoreLength", core), impl.CoreLength(core), sumOf(whole))
		wantJoin(t, core, segments(core, nil, func(_ impl.Piece, owner int) int { return min(owner, 0) }), true)
		wantGaps(t, core, segments(core, nil, func(_ impl.Piece, owner int) int {
			if owner == -1 {
				return 0
			}
			return -1
		}))
	})
	forDepths(func(core []impl.Piece, depth int) {
		want := segments(core, []int{depth}, func(s impl.Piece, owner int) int {
			if owner != -1 && s.Top >= depth {
				return owner + mostPieces
			}
			return owner
		})
		if len(want) == len(core) || len(core) == mostPieces {
			wantCut(t, core, depth, nil, false)
		} else {
			wantCut(t, core, depth, want, true)
		}
	})
	forRanges(func(core []impl.Piece, top int, bottom int) {
		want := segments(core, []int{top, bottom}, func(s impl.Piece, owner int) int {
			if s.Top < top || s.Bottom > bottom {
				return -1
			}
			return owner
		})
		wantBetween(t, core, top, bottom, want, true)
	})
}

func TestP30PartsOfACoreAreCores(t *testing.T) {
	forPlaces(func(core []impl.Piece, first []impl.Piece, others []impl.Piece) {
		if !impl.CoreValid(core) || !impl.CoreValid(first) || !impl.CoreValid(others) {
			t.Fatalf("CoreValid does not hold for %s, or its parts %s and %s", namedCore(core), namedCore(first), namedCore(others))
		}
		if len(first) > 0 {
			wantNoCore(t, slices.Concat(first, first[len(first)-1:]), []int{0, 3, deepest})
		}
	})
}

func TestP31LengthsAreAdded(t *testing.T) {
	forPlaces(func(core []impl.Piece, first []impl.Piece, others []impl.Piece) {
		wantNumber(t, namedCall("CoreLength", core), impl.CoreLength(core), impl.CoreLength(first)+impl.CoreLength(others))
	})
	forCores(func(core []impl.Piece) {
		length := impl.CoreLength(core)
		if length < len(core) {
			t.Fatalf("%s returned %d", namedCall("CoreLength", core), length)
		}
		distance := 0
		if len(core) > 0 {
			distance = core[len(core)-1].Bottom - core[0].Top
		}
		gaps := impl.CoreGaps(core)
		wantNumber(t, "CoreLength with all gaps of "+namedCore(core), length+sumOf(gaps), distance)
		wantNumber(t, namedCall("CoreLength", gaps), impl.CoreLength(gaps), sumOf(gaps))
	})
}

func TestP32ThePieceHasTheDepthAndNoOtherOne(t *testing.T) {
	times := 0
	forDepths(func(core []impl.Piece, depth int) {
		i := impl.CoreHas(core, depth)
		if i != -1 {
			times++
		}
		for k, p := range core {
			if has := p.Top <= depth && depth < p.Bottom; has != (k == i) {
				t.Fatalf("%s returned %d", namedCall("CoreHas", core, depth), i)
			}
		}
	})
	wantOften(t, times, 2000)
}

func TestP33GapsHaveTheOtherDepths(t *testing.T) {
	forGaps(t, func(core []impl.Piece, gaps []impl.Piece) {
		if !impl.CoreValid(gaps) {
			t.Fatalf("%s returned %s", namedCall("CoreGaps", core), namedCore(gaps))
		}
		for _, d := range nearDepths(core) {
			between := core[0].Top <= d && d < core[len(core)-1].Bottom
			inPiece, inGap := impl.CoreHas(core, d) != -1, impl.CoreHas(gaps, d) != -1
			if inPiece && inGap || between != (inPiece || inGap) {
				t.Fatalf("%s returned %s, which contradicts the depth %d", namedCall("CoreGaps", core), namedCore(gaps), d)
			}
		}
	})
}

func TestP34GapsBetweenTheGapsAreThePieces(t *testing.T) {
	forGaps(t, func(core []impl.Piece, gaps []impl.Piece) {
		whole := joined(t, core)
		wantNumber(t, "the number of pieces of "+namedCall("CoreJoin", core), len(whole), len(gaps)+1)
		wantGaps(t, gaps, whole[1:len(whole)-1])
	})
}

func TestP35JoinKeepsLengthAndGaps(t *testing.T) {
	changed := 0
	forCores(func(core []impl.Piece) {
		whole := joined(t, core)
		wantNumber(t, namedCall("CoreLength", whole), impl.CoreLength(whole), impl.CoreLength(core))
		wantGaps(t, whole, impl.CoreGaps(core))
		for i := 1; i < len(whole); i++ {
			if whole[i-1].Bottom == whole[i].Top {
				t.Fatalf("%s returned %s", namedCall("CoreJoin", core), namedCore(whole))
			}
		}
		wantJoin(t, whole, whole, true)
		if len(whole) < len(core) {
			changed++
		}
	})
	wantOften(t, changed, 400)
}

func TestP36CutHasOnePieceMore(t *testing.T) {
	forCuts(t, func(core []impl.Piece, depth int, cut []impl.Piece) {
		call := namedCall("CoreCut", core, depth)
		wantNumber(t, "the number of pieces of "+call, len(cut), len(core)+1)
		wantNumber(t, "CoreLength of "+call, impl.CoreLength(cut), impl.CoreLength(core))
		wantJoin(t, cut, joined(t, core), true)
		wantCut(t, cut, depth, nil, false)
	})
}

// The piece below the cut has the depth of the cut, as a piece has its Top: that depth is one behind the cut.
func TestP37CutMovesTheIndexesBehindIt(t *testing.T) {
	forCuts(t, func(core []impl.Piece, depth int, cut []impl.Piece) {
		for _, d := range append(nearDepths(cut), outsideDepths()...) {
			want := impl.CoreHas(core, d)
			if want != -1 && d >= depth {
				want++
			}
			wantHas(t, cut, d, want)
		}
	})
}

func TestP38BetweenHasTheDepthsOfTheRange(t *testing.T) {
	forRanges(func(core []impl.Piece, top int, bottom int) {
		part := cutOff(t, core, top, bottom)
		if !impl.CoreValid(part) {
			t.Fatalf("%s returned %s", namedCall("CoreBetween", core, top, bottom), namedCore(part))
		}
		for _, d := range append(nearDepths(core), top-1, top, top+1, bottom-1, bottom, bottom+1) {
			want := impl.CoreHas(core, d) != -1 && top <= d && d < bottom
			if has := impl.CoreHas(part, d) != -1; has != want {
				t.Fatalf("%s returned %s, which contradicts the depth %d", namedCall("CoreBetween", core, top, bottom), namedCore(part), d)
			}
		}
	})
}

func TestP39BetweenIsAdded(t *testing.T) {
	forRanges(func(core []impl.Piece, top int, bottom int) {
		whole := impl.CoreLength(cutOff(t, core, top, bottom))
		for _, d := range fewDepths(core) {
			if top <= d && d <= bottom {
				above, below := cutOff(t, core, top, d), cutOff(t, core, d, bottom)
				wantNumber(t, "CoreLength of "+namedCall("CoreBetween", core, top, d, bottom), impl.CoreLength(above)+impl.CoreLength(below), whole)
			}
		}
	})
}

func TestP40BetweenTheEndsAndBetweenEqualDepths(t *testing.T) {
	forCores(func(core []impl.Piece) {
		wantBetween(t, core, 0, impl.DepthMax, core, true)
	})
	forDepths(func(core []impl.Piece, depth int) {
		wantBetween(t, core, depth, depth, nil, true)
	})
}

func TestP41JoinHasTheSameDepths(t *testing.T) {
	lesser := 0
	forDepths(func(core []impl.Piece, depth int) {
		before, behind := impl.CoreHas(core, depth), impl.CoreHas(joined(t, core), depth)
		if (before == -1) != (behind == -1) || behind > before {
			t.Fatalf("CoreHas of %d is %d in %s, and %d once it is joined", depth, before, namedCore(core), behind)
		}
		if behind < before {
			lesser++
		}
	})
	wantOften(t, lesser, 400)
}

func TestP42BetweenWithinBetween(t *testing.T) {
	forRanges(func(core []impl.Piece, top int, bottom int) {
		part := cutOff(t, core, top, bottom)
		few := fewDepths(core)
		for i := 0; i < len(few); i += 2 {
			for k := i; k < len(few); k += 2 {
				if top <= few[i] && few[k] <= bottom {
					wantBetween(t, part, few[i], few[k], cutOff(t, core, few[i], few[k]), true)
				}
			}
		}
		wantBetween(t, part, top, bottom, part, true)
	})
}

func TestP43BothSidesOfTheCutHaveAllPieces(t *testing.T) {
	forCuts(t, func(core []impl.Piece, depth int, cut []impl.Piece) {
		above, below := cutOff(t, cut, 0, depth), cutOff(t, cut, depth, impl.DepthMax)
		wantCore(t, "CoreBetween of both sides of "+namedCall("CoreCut", core, depth), slices.Concat(above, below), true, cut, true)
	})
}

func TestP44HasOfTopAndBottom(t *testing.T) {
	greater, none := 0, 0
	forDepths(func(core []impl.Piece, depth int) {
		i := impl.CoreHas(core, depth)
		if i == -1 {
			return
		}
		wantHas(t, core, core[i].Top, i)
		switch k := impl.CoreHas(core, core[i].Bottom); {
		case k > i:
			greater++
		case k == -1:
			none++
		default:
			t.Fatalf("%s returned %d", namedCall("CoreHas", core, core[i].Bottom), k)
		}
	})
	wantOften(t, greater, 500)
	wantOften(t, none, 500)
}

func TestP45LengthIsTheNumberOfDepths(t *testing.T) {
	count := func(core []impl.Piece, first int, last int) {
		depths := 0
		for d := first; d <= last; d++ {
			if impl.CoreHas(core, d) != -1 {
				depths++
			}
		}
		wantNumber(t, "the number of depths of "+namedCore(core), depths, impl.CoreLength(core))
	}
	for _, core := range coresWithin(0, 7) {
		count(core, -5, 20)
	}
	for _, core := range coresWithin(deepest-5, deepest) {
		count(core, deepest-20, deepest+5)
	}
	for _, core := range longCores() {
		count(core, -5, deepest+5)
	}
}

// asPieces tells numbers as a list of pieces.
func asPieces(numbers ...int) []impl.Piece {
	list := []impl.Piece{}
	for _, n := range numbers {
		list = append(list, piece(n, n))
	}
	return list
}

// coreMemory has calls of all functions with cores, with arguments for which they succeed and fail.
func coreMemory(lists [][]impl.Piece) memoryCheck[impl.Piece] {
	calls := map[string]listCall[impl.Piece]{
		"CoreValid":  func(core []impl.Piece) ([]impl.Piece, bool) { return nil, impl.CoreValid(core) },
		"CoreLength": func(core []impl.Piece) ([]impl.Piece, bool) { return asPieces(impl.CoreLength(core)), true },
		"CoreGaps":   func(core []impl.Piece) ([]impl.Piece, bool) { return impl.CoreGaps(core), true },
		"CoreJoin":   impl.CoreJoin,
	}
	for _, d := range []int{-1, 0, 1, 2, 3, 5, 10, 100, 15001, 29998, 29999, deepest} {
		calls["CoreHas of "+strconv.Itoa(d)] = func(core []impl.Piece) ([]impl.Piece, bool) { return asPieces(impl.CoreHas(core, d)), true }
		calls["CoreCut at "+strconv.Itoa(d)] = func(core []impl.Piece) ([]impl.Piece, bool) { return impl.CoreCut(core, d) }
		calls["CoreBetween up to "+strconv.Itoa(d)] = func(core []impl.Piece) ([]impl.Piece, bool) { return impl.CoreBetween(core, 0, d) }
		calls["CoreBetween from "+strconv.Itoa(d)] = func(core []impl.Piece) ([]impl.Piece, bool) { return impl.CoreBetween(core, d, deepest) }
	}
	return memoryCheck[impl.Piece]{lists, calls, spoiled, namedCore}
}

func TestCoreFunctionsWriteNothing(t *testing.T) {
	coreMemory(append(sampleCores(), noCores()...)).wantNothingWritten(t)
}

func TestCoreFunctionsShareNothing(t *testing.T) {
	coreMemory(append(sampleCores(), noCores()[:30]...)).wantNothingShared(t)
}

func TestCoreFunctionsReadNothingBehindAList(t *testing.T) {
	coreMemory(sampleCores()).wantNothingReadBehind(t)
}
