package tests

import (
	"fmt"
	"maps"
	"math"
	"math/rand/v2"
	"slices"
	"strconv"
	"strings"
	"testing"

	"loop.example/icecores/impl"
)

const (
	mostLayers = 40
	oldestAge  = 400000
)

// spoiledLayer is no layer; the tests write it over memory that no function may use.
var spoiledLayer = layer(-7, true)

func layer(depth int, sure bool) impl.Layer {
	return impl.Layer{Depth: depth, Sure: sure}
}

// layersOf returns the layers with the depths of a text, where those that are not sure have a `?` behind.
func layersOf(text string) []impl.Layer {
	list := []impl.Layer{}
	for _, word := range strings.Fields(text) {
		number, uncertain := strings.CutSuffix(word, "?")
		depth, err := strconv.Atoi(number)
		if err != nil {
			panic(err)
		}
		list = append(list, layer(depth, !uncertain))
	}
	return list
}

// layersAt returns layers at depths, of which those are sure whose index is judged so.
func layersAt(depths []int, sure func(i int) bool) []impl.Layer {
	list := []impl.Layer{}
	for i, d := range depths {
		list = append(list, layer(d, sure(i)))
	}
	return list
}

func sureAt(depths ...int) []impl.Layer {
	return layersAt(depths, func(int) bool { return true })
}

func unsureAt(depths ...int) []impl.Layer {
	return layersAt(depths, func(int) bool { return false })
}

func namedLayers(list []impl.Layer) string {
	return listText(list, 5*mostLayers, "layers", func(l impl.Layer) string {
		if l.Sure {
			return strconv.Itoa(l.Depth)
		}
		return strconv.Itoa(l.Depth) + "?"
	})
}

// inLayers returns the text of a call with layers and numbers.
func inLayers(name string, list []impl.Layer, numbers ...int) string {
	return callText(name, namedLayers(list), numbers...)
}

func namedMerge(a []impl.Layer, b []impl.Layer) string {
	return "LayersMerge(" + namedLayers(a) + ", " + namedLayers(b) + ")"
}

func depthsOf(list []impl.Layer) []int {
	return eachAs(list, func(l impl.Layer) int { return l.Depth })
}

func sureDepthsOf(list []impl.Layer) []int {
	return depthsOf(slices.DeleteFunc(slices.Clone(list), func(l impl.Layer) bool { return !l.Sure }))
}

// moved returns the layers deeper by a number of millimeters, all sure or none.
func moved(list []impl.Layer, deeper int, sure bool) []impl.Layer {
	return eachAs(list, func(l impl.Layer) impl.Layer { return layer(l.Depth+deeper, sure) })
}

// allAs returns the layers at the same depths, all sure or none.
func allAs(list []impl.Layer, sure bool) []impl.Layer {
	return moved(list, 0, sure)
}

// layersWithin returns all layers with depths from a first to a last one.
func layersWithin(first int, last int) [][]impl.Layer {
	list := [][]impl.Layer{}
	for _, depths := range ascendingDepths(first, last) {
		for _, marks := range listsOf(len(depths), 0, 1) {
			list = append(list, layersAt(depths, func(i int) bool { return marks[i] == 1 }))
		}
	}
	return list
}

// longLayers have as many layers as are allowed or one less, or reach from end to end: all sure, none, some, or only at the ends.
func longLayers() [][]impl.Layer {
	list := [][]impl.Layer{}
	for _, depths := range [][]int{
		steps(mostLayers, 0, 1), steps(mostLayers, 0, 769), steps(mostLayers, 9, 769), steps(mostLayers, 1, 7), steps(mostLayers, deepest-mostLayers+1, 1),
		steps(mostLayers-1, 0, 750), steps(mostLayers-1, 3, 2), {0}, {1}, {deepest}, {deepest - 1}, {0, deepest}, {0, 1, 29999, deepest}, {0, 15000, deepest}, {7, 9, 10, 15, 16, 17, 29990},
	} {
		last := len(depths) - 1
		for _, sure := range []func(i int) bool{
			func(int) bool { return true }, func(int) bool { return false },
			func(i int) bool { return i%2 == 0 }, func(i int) bool { return i%2 == 1 }, func(i int) bool { return i%3 == 1 },
			func(i int) bool { return i == 0 }, func(i int) bool { return i == last }, func(i int) bool { return i == 0 || i == last }, func(i int) bool { return i > 0 && i < last },
		} {
			list = append(list, layersAt(depths, sure))
		}
	}
	return list
}

// mixedLayers are the same ones in each run, thin and thick, with few and with many sure ones.
func mixedLayers(number int) [][]impl.Layer {
	r := rand.New(rand.NewPCG(14, 118))
	list := [][]impl.Layer{}
	for i := range number {
		thickest := []int{1, 3, 40, 700, 3000}[i%5]
		depth := r.IntN(thickest + 1)
		layers := []impl.Layer{}
		for range r.IntN(mostLayers + 1) {
			if depth <= deepest {
				layers = append(layers, layer(depth, r.IntN(4) <= i%4))
			}
			depth += 1 + r.IntN(thickest)
		}
		list = append(list, layers)
	}
	return list
}

// sampleLayers returns all layers of a few depths at both ends, and long and mixed ones.
func sampleLayers() [][]impl.Layer {
	return slices.Concat([][]impl.Layer{nil}, layersWithin(0, 4), layersWithin(deepest-3, deepest), longLayers(), mixedLayers(100))
}

// noLayers break each condition of layers alone and with others, at each end of a list and inside.
func noLayers() [][]impl.Layer {
	list := [][]impl.Layer{}
	for _, depths := range [][]int{
		{5, 5}, {0, 0}, {deepest, deepest}, {6, 5}, {1, 0}, {deepest, 0}, {0, 5, 5}, {0, 0, 5}, {0, 5, 4}, {5, 0, 9}, {0, 9, 5}, {9, 5, 0}, {0, 1, 2, 2, 3}, {0, 1, 3, 2, 4},
		{-1}, {-1, 0}, {-2, -1}, {-1, deepest}, {deepest + 1}, {deepest, deepest + 1}, {0, deepest + 1}, {-1, deepest + 1}, {deepest + 1, deepest + 2}, {deepest + 1, 5}, {5, -1},
		{math.MinInt}, {math.MaxInt}, {math.MinInt, math.MaxInt}, {math.MaxInt, math.MinInt}, {math.MinInt, math.MinInt}, {math.MaxInt, math.MaxInt}, {math.MinInt, 0, math.MaxInt}, {math.MaxInt - 1, math.MaxInt}, {math.MinInt, math.MinInt + 1},
		steps(mostLayers+1, 0, 1), steps(mostLayers+1, 0, 750), steps(mostLayers+1, deepest-mostLayers, 1), steps(mostLayers+2, 5, 5), steps(2*mostLayers, 0, 3), steps(1000, 0, 1), steps(deepest+1, 0, 1),
	} {
		list = append(list, sureAt(depths...), unsureAt(depths...), layersAt(depths, func(i int) bool { return i%2 == 0 }), layersAt(depths, func(i int) bool { return i%2 == 1 }))
	}
	for _, layers := range [][]impl.Layer{layersOf("5"), layersOf("5?"), layersOf("5 10?"), layersOf("5? 10 20"), sureAt(steps(mostLayers, 5, 10)...), unsureAt(steps(mostLayers, 5, 10)...)} {
		for i, l := range layers {
			for _, d := range append(outsideDepths(), spoiledLayer.Depth) {
				list = append(list, replaced(layers, i, layer(d, l.Sure)), replaced(layers, i, layer(d, !l.Sure)))
			}
			if i > 0 {
				ahead := layers[i-1].Depth
				list = append(list, replaced(layers, i, layer(ahead, l.Sure)), replaced(layers, i, layer(ahead, !l.Sure)), replaced(layers, i, layer(ahead-1, l.Sure)))
			}
			list = append(list, slices.Insert(slices.Clone(layers), i, l))
		}
		if len(layers) > 1 {
			list = append(list, inOppositeOrder(layers))
		}
	}
	return list
}

// isLayers tells by each two layers whether a list are layers.
func isLayers(list []impl.Layer) bool {
	for i, l := range list {
		if l.Depth < 0 || l.Depth > deepest {
			return false
		}
		for _, ahead := range list[:i] {
			if ahead.Depth >= l.Depth {
				return false
			}
		}
	}
	return len(list) <= mostLayers
}

// layerDepths returns the depths at and next to all layers, and both ends of the range, in order.
func layerDepths(list []impl.Layer) []int {
	return nearDepths(asPieces(depthsOf(list)...))
}

// fewLayerDepths returns as many of these depths as a test of all threes of them has time for.
func fewLayerDepths(list []impl.Layer) []int {
	return fewDepths(asPieces(depthsOf(list)...))
}

// ahead returns how many of ascending depths are less than a depth.
func ahead(depths []int, depth int) int {
	number, _ := slices.BinarySearch(depths, depth)
	return number
}

// exactYears returns what LayersCount of valid layers and a valid range is to return: what is ahead of its bottom, but not of its top.
func exactYears(list []impl.Layer, top int, bottom int) (int, int) {
	sure, all := sureDepthsOf(list), depthsOf(list)
	return ahead(sure, bottom) - ahead(sure, top), ahead(all, bottom) - ahead(all, top)
}

// exactMerge keeps for each depth whether it is sure.
func exactMerge(a []impl.Layer, b []impl.Layer) ([]impl.Layer, bool) {
	sure := map[int]bool{}
	for _, l := range slices.Concat(a, b) {
		sure[l.Depth] = sure[l.Depth] || l.Sure
	}
	if len(sure) > mostLayers {
		return nil, false
	}
	list := []impl.Layer{}
	for _, d := range slices.Sorted(maps.Keys(sure)) {
		list = append(list, layer(d, sure[d]))
	}
	return list, true
}

// exactThick returns the differences of neighbors of all sure depths.
func exactThick(list []impl.Layer) []int {
	thick := []int{}
	sure := sureDepthsOf(list)
	for i := 1; i < len(sure); i++ {
		thick = append(thick, sure[i]-sure[i-1])
	}
	return thick
}

func wantLayersValid(t *testing.T, list []impl.Layer, want bool) {
	t.Helper()
	if got := impl.LayersValid(list); got != want {
		t.Fatalf("%s returned %t", inLayers("LayersValid", list), got)
	}
}

func wantYears(t *testing.T, list []impl.Layer, top int, bottom int, wantLeast int, wantGreatest int, wantOk bool) {
	t.Helper()
	least, greatest, ok := impl.LayersCount(list, top, bottom)
	if least != wantLeast || greatest != wantGreatest || ok != wantOk {
		t.Fatalf("%s returned %d, %d, %t, not %d, %d, %t", inLayers("LayersCount", list, top, bottom), least, greatest, ok, wantLeast, wantGreatest, wantOk)
	}
}

func wantHalves(t *testing.T, list []impl.Layer, top int, bottom int, want int, wantOk bool) {
	t.Helper()
	got, ok := impl.LayersHalf(list, top, bottom)
	if got != want || ok != wantOk {
		t.Fatalf("%s returned %d, %t, not %d, %t", inLayers("LayersHalf", list, top, bottom), got, ok, want, wantOk)
	}
}

func wantAges(t *testing.T, list []impl.Layer, age int, depth int, wantLeast int, wantGreatest int, wantOk bool) {
	t.Helper()
	least, greatest, ok := impl.LayersAge(list, age, depth)
	if least != wantLeast || greatest != wantGreatest || ok != wantOk {
		t.Fatalf("%s returned %d, %d, %t, not %d, %d, %t", inLayers("LayersAge", list, age, depth), least, greatest, ok, wantLeast, wantGreatest, wantOk)
	}
}

func wantMerged(t *testing.T, a []impl.Layer, b []impl.Layer, want []impl.Layer, wantOk bool) {
	t.Helper()
	got, ok := impl.LayersMerge(a, b)
	if !slices.Equal(got, want) || ok != wantOk {
		t.Fatalf("%s returned %s, %t, not %s, %t", namedMerge(a, b), namedLayers(got), ok, namedLayers(want), wantOk)
	}
}

func wantSureDepth(t *testing.T, list []impl.Layer, n int, want int, wantOk bool) {
	t.Helper()
	got, ok := impl.LayersDepth(list, n)
	if got != want || ok != wantOk {
		t.Fatalf("%s returned %d, %t, not %d, %t", inLayers("LayersDepth", list, n), got, ok, want, wantOk)
	}
}

func wantThick(t *testing.T, list []impl.Layer, want []int) {
	t.Helper()
	if got := impl.LayersThick(list); !slices.Equal(got, want) {
		t.Fatalf("%s returned %v, not %v", inLayers("LayersThick", list), got, want)
	}
}

// wantNoLayers checks that every function tells that a list are no layers, whatever its other arguments.
func wantNoLayers(t *testing.T, list []impl.Layer) {
	t.Helper()
	wantLayersValid(t, list, false)
	wantThick(t, list, nil)
	numbers := []int{-1, 0, 1, 2, 5, 10, mostLayers, deepest, deepest + 1, math.MinInt, math.MaxInt}
	for _, n := range numbers {
		wantSureDepth(t, list, n, 0, false)
		for _, bottom := range numbers {
			wantYears(t, list, n, bottom, 0, 0, false)
			wantHalves(t, list, n, bottom, 0, false)
			wantAges(t, list, n, bottom, 0, 0, false)
		}
	}
	for _, other := range [][]impl.Layer{nil, layersOf("5"), layersOf("0? 30000"), sureAt(steps(mostLayers, 5, 10)...), list} {
		wantMerged(t, list, other, nil, false)
		wantMerged(t, other, list, nil, false)
	}
}

// yearsOf returns LayersCount of a range, which must succeed.
func yearsOf(t *testing.T, list []impl.Layer, top int, bottom int) (int, int) {
	t.Helper()
	least, greatest, ok := impl.LayersCount(list, top, bottom)
	if !ok {
		t.Fatalf("%s failed", inLayers("LayersCount", list, top, bottom))
	}
	return least, greatest
}

// agesOf returns LayersAge at a depth, which must succeed.
func agesOf(t *testing.T, list []impl.Layer, age int, depth int) (int, int) {
	t.Helper()
	least, greatest, ok := impl.LayersAge(list, age, depth)
	if !ok {
		t.Fatalf("%s failed", inLayers("LayersAge", list, age, depth))
	}
	return least, greatest
}

// forLayers calls a check with each of the sample layers.
func forLayers(check func(list []impl.Layer)) {
	for _, list := range sampleLayers() {
		check(list)
	}
}

// forYears calls a check with each sample of layers and each range between some of the depths near them, and both numbers of LayersCount.
func forYears(t *testing.T, check func(list []impl.Layer, top int, bottom int, least int, greatest int)) {
	t.Helper()
	forLayers(func(list []impl.Layer) {
		few := fewLayerDepths(list)
		for i, top := range few {
			for _, bottom := range few[i:] {
				least, greatest := yearsOf(t, list, top, bottom)
				check(list, top, bottom, least, greatest)
			}
		}
	})
}

// forAges calls a check with each sample of layers, some ages at the depth 0, and some of the depths near the layers.
func forAges(check func(list []impl.Layer, age int, depth int)) {
	forLayers(func(list []impl.Layer) {
		for _, age := range []int{-oldestAge, -2000, -1, 0, 7, oldestAge - 1, oldestAge} {
			for _, depth := range fewLayerDepths(list) {
				check(list, age, depth)
			}
		}
	})
}

// forThick calls a check with each sample of layers for which LayersThick is not empty, and its result.
func forThick(t *testing.T, check func(list []impl.Layer, thick []int)) {
	t.Helper()
	times := 0
	forLayers(func(list []impl.Layer) {
		if thick := impl.LayersThick(list); len(thick) > 0 {
			times++
			check(list, thick)
		}
	})
	wantOften(t, times, 200)
}

// layerPairs returns pairs of lists: all of a few depths, and long and mixed ones, with common depths and without, that have up to LayersMax layers together or more.
func layerPairs() [][2][]impl.Layer {
	pairs := [][2][]impl.Layer{}
	for _, lists := range [][][]impl.Layer{layersWithin(0, 3), layersWithin(deepest-2, deepest), slices.Concat(longLayers(), mixedLayers(20), [][]impl.Layer{nil})} {
		for _, a := range lists {
			for _, b := range lists {
				pairs = append(pairs, [2][]impl.Layer{a, b})
			}
		}
	}
	for _, list := range mixedLayers(100) {
		for k := range len(list) + 1 {
			pairs = append(pairs, [2][]impl.Layer{list[:k], list[k:]}, [2][]impl.Layer{list[k:], allAs(list[:len(list)-k/2], k%2 == 0)})
		}
	}
	return pairs
}

// forMerged calls a check with each of the pairs for which LayersMerge succeeds, and its result.
func forMerged(t *testing.T, check func(a []impl.Layer, b []impl.Layer, merged []impl.Layer)) {
	t.Helper()
	times := 0
	for _, p := range layerPairs() {
		if merged, ok := impl.LayersMerge(p[0], p[1]); ok {
			times++
			check(p[0], p[1], merged)
		}
	}
	wantOften(t, times, 10000)
}

func TestLayersMax(t *testing.T) {
	if impl.LayersMax != mostLayers || 2*impl.YearMax != oldestAge {
		t.Errorf("LayersMax is %d, YearMax is %d", impl.LayersMax, impl.YearMax)
	}
}

func TestLayersValidExamples(t *testing.T) {
	for _, text := range []string{"", "0", "0?", "30000", "30000?", "0 30000", "0? 30000?", "3 5? 9 14", "0 1 2?", "29998? 29999 30000?"} {
		wantLayersValid(t, layersOf(text), true)
	}
	wantLayersValid(t, nil, true)
	forLayers(func(list []impl.Layer) { wantLayersValid(t, list, true) })
	for _, text := range []string{"-1", "-1?", "30001", "30001?", "5 5", "5 5?", "5? 5", "5? 5?", "6 5", "6? 5?", "0 30001", "-1 0"} {
		wantLayersValid(t, layersOf(text), false)
	}
}

func TestNoLayers(t *testing.T) {
	for _, list := range noLayers() {
		wantNoLayers(t, list)
	}
}

// TestEveryShortListOfLayers checks every list of up to three layers at and next to both ends of the range.
func TestEveryShortListOfLayers(t *testing.T) {
	valid := 0
	for number := range 4 {
		for _, depths := range listsOf(number, -1, 0, 1, 2, deepest, deepest+1) {
			for _, marks := range listsOf(number, 0, 1) {
				list := layersAt(depths, func(i int) bool { return marks[i] == 1 })
				if !isLayers(list) {
					wantNoLayers(t, list)
					continue
				}
				valid++
				wantLayersValid(t, list, true)
			}
		}
	}
	wantNumber(t, "the number of layers", valid, 1+4*2+6*4+4*8)
}

func TestListsOfEveryNumberOfLayers(t *testing.T) {
	for number := range 2*mostLayers + 5 {
		for _, list := range [][]impl.Layer{sureAt(steps(number, 0, 1)...), unsureAt(steps(number, 3, 2)...), layersAt(steps(number, 1, 300), func(i int) bool { return i%2 == 0 })} {
			if number > mostLayers {
				wantNoLayers(t, list)
				continue
			}
			wantLayersValid(t, list, true)
			wantMerged(t, list, nil, list, true)
			least, greatest := exactYears(list, 0, deepest)
			wantYears(t, list, 0, deepest, least, greatest, true)
			wantNumber(t, "the number of layers of "+namedLayers(list), greatest, number)
		}
	}
}

func TestWithoutLayers(t *testing.T) {
	for _, list := range [][]impl.Layer{nil, {}, make([]impl.Layer, 0, 5)} {
		wantLayersValid(t, list, true)
		wantMerged(t, list, list, nil, true)
		wantMerged(t, list, nil, nil, true)
		wantThick(t, list, nil)
		for _, n := range append(outsideDepths(), 0, 1, mostLayers, deepest) {
			wantSureDepth(t, list, n, 0, false)
		}
		for _, r := range [][2]int{{0, 0}, {0, deepest}, {deepest, deepest}, {3, 9}} {
			wantYears(t, list, r[0], r[1], 0, 0, true)
			wantHalves(t, list, r[0], r[1], 0, true)
		}
		wantAges(t, list, 5, deepest, 5, 5, true)
	}
}

func TestLayersCountExamples(t *testing.T) {
	list := layersOf("3 5? 9 14")
	ends := layersOf("0? 1 29999? 30000")
	for _, e := range []struct {
		list                         []impl.Layer
		top, bottom, least, greatest int
	}{
		{list, 3, 14, 2, 3}, {list, 0, deepest, 3, 4}, {list, 3, 3, 0, 0}, {list, 2, 3, 0, 0}, {list, 3, 4, 1, 1}, {list, 4, 5, 0, 0}, {list, 5, 6, 0, 1}, {list, 5, 5, 0, 0},
		{list, 4, 9, 0, 1}, {list, 4, 10, 1, 2}, {list, 3, 9, 1, 2}, {list, 5, 14, 1, 2}, {list, 5, 15, 2, 3}, {list, 14, 15, 1, 1}, {list, 14, 14, 0, 0}, {list, 15, deepest, 0, 0}, {list, 0, 3, 0, 0}, {list, 0, 4, 1, 1},
		{ends, 0, 0, 0, 0}, {ends, 0, 1, 0, 1}, {ends, 0, 2, 1, 2}, {ends, 1, 2, 1, 1}, {ends, 1, 29999, 1, 1}, {ends, 1, deepest, 1, 2}, {ends, 0, deepest, 1, 3}, {ends, 29999, deepest, 0, 1}, {ends, deepest, deepest, 0, 0},
		{sureAt(steps(mostLayers, 0, 1)...), 0, deepest, mostLayers, mostLayers}, {unsureAt(steps(mostLayers, 0, 1)...), 0, deepest, 0, mostLayers}, {sureAt(steps(mostLayers, 0, 1)...), 1, mostLayers - 1, mostLayers - 2, mostLayers - 2},
		// The layer at the greatest depth is in no range, as it would be at its end.
		{sureAt(steps(mostLayers, 9, 769)...), 0, deepest, mostLayers - 1, mostLayers - 1},
	} {
		wantYears(t, e.list, e.top, e.bottom, e.least, e.greatest, true)
		wantHalves(t, e.list, e.top, e.bottom, e.least+e.greatest, true)
	}
}

func TestLayersCountIsExact(t *testing.T) {
	forLayers(func(list []impl.Layer) {
		depths := layerDepths(list)
		for i, top := range depths {
			for _, bottom := range depths[i:] {
				least, greatest := exactYears(list, top, bottom)
				wantYears(t, list, top, bottom, least, greatest, true)
				wantHalves(t, list, top, bottom, 2*least+(greatest-least), true)
			}
		}
	})
}

// TestLayersCountOfDepthsOutside has each depth out of range with one within, both out of range, and both exchanged.
func TestLayersCountOfDepthsOutside(t *testing.T) {
	forLayers(func(list []impl.Layer) {
		wantFailure := func(top int, bottom int) {
			t.Helper()
			wantYears(t, list, top, bottom, 0, 0, false)
			wantHalves(t, list, top, bottom, 0, false)
		}
		few := fewLayerDepths(list)
		for _, outside := range outsideDepths() {
			for _, d := range append(outsideDepths(), few...) {
				wantFailure(outside, d)
				wantFailure(d, outside)
			}
		}
		for i, bottom := range few {
			for _, top := range few[i+1:] {
				wantFailure(top, bottom)
			}
		}
	})
}

func TestLayersAgeExamples(t *testing.T) {
	list := layersOf("0 3? 4 30000")
	for _, e := range []struct{ age, depth, least, greatest int }{
		{0, 0, 0, 0}, {0, 1, 1, 1}, {0, 3, 1, 1}, {0, 4, 1, 2}, {0, 5, 2, 3}, {0, deepest, 2, 3}, {-16, 5, -14, -13}, {-1, 1, 0, 0}, {100, 4, 101, 102},
		{oldestAge, 0, oldestAge, oldestAge}, {oldestAge, deepest, oldestAge + 2, oldestAge + 3}, {-oldestAge, 0, -oldestAge, -oldestAge}, {-oldestAge, deepest, -oldestAge + 2, -oldestAge + 3},
	} {
		wantAges(t, list, e.age, e.depth, e.least, e.greatest, true)
	}
}

func TestLayersAgeIsExact(t *testing.T) {
	forAges(func(list []impl.Layer, age int, depth int) {
		least, greatest := exactYears(list, 0, depth)
		wantAges(t, list, age, depth, age+least, age+greatest, true)
	})
}

func TestLayersAgeOutside(t *testing.T) {
	agesOutside := []int{oldestAge + 1, oldestAge + 2, 2 * oldestAge, 1 << 32, math.MaxInt - 1, math.MaxInt, -oldestAge - 1, -oldestAge - 2, -2 * oldestAge, -1 << 32, math.MinInt + 1, math.MinInt}
	forLayers(func(list []impl.Layer) {
		for _, age := range agesOutside {
			for _, depth := range append(outsideDepths(), fewLayerDepths(list)...) {
				wantAges(t, list, age, depth, 0, 0, false)
			}
		}
		for _, depth := range outsideDepths() {
			for _, age := range []int{-oldestAge, -1, 0, 5, oldestAge} {
				wantAges(t, list, age, depth, 0, 0, false)
			}
		}
	})
}

func TestLayersMergeExamples(t *testing.T) {
	for _, e := range []struct{ a, b, want string }{
		{"3 5? 9 14", "5 6?", "3 5 6? 9 14"},
		{"", "", ""}, {"7?", "", "7?"}, {"", "0 30000?", "0 30000?"},
		{"5", "5", "5"}, {"5?", "5", "5"}, {"5", "5?", "5"}, {"5?", "5?", "5?"},
		{"5", "6", "5 6"}, {"6", "5", "5 6"}, {"5?", "6", "5? 6"}, {"6?", "5", "5 6?"},
		{"0 2 4", "1? 3? 5?", "0 1? 2 3? 4 5?"}, {"0 1 2", "3? 4?", "0 1 2 3? 4?"}, {"3? 4?", "0 1 2", "0 1 2 3? 4?"}, {"0 30000", "15000?", "0 15000? 30000"}, {"15000?", "0 30000", "0 15000? 30000"},
		{"1 2? 3 4?", "1 2? 3? 4", "1 2? 3 4"}, {"1? 2? 3?", "2", "1? 2 3?"}, {"1 2 3", "2?", "1 2 3"}, {"0? 30000?", "0 30000", "0 30000"}, {"1 9", "1? 5 9?", "1 5 9"},
	} {
		wantMerged(t, layersOf(e.a), layersOf(e.b), layersOf(e.want), true)
	}
}

// TestLayersMergeOfManyLayers has lists with as many layers together as are allowed and with one more, with common depths and without.
func TestLayersMergeOfManyLayers(t *testing.T) {
	half := mostLayers / 2
	all := sureAt(steps(mostLayers, 0, 2)...)
	for k := range mostLayers + 1 {
		wantMerged(t, all[:k], all[k:], all, true)
		wantMerged(t, all[k:], all[:k], all, true)
		// Common depths count once, however many layers both lists have.
		wantMerged(t, all, allAs(all[:k], false), all, true)
		wantMerged(t, allAs(all[k:], false), all, all, true)
		wantMerged(t, all[:k], unsureAt(steps(mostLayers-k, 2*k, 2)...), slices.Concat(all[:k], allAs(all[k:], false)), true)
	}
	for _, d := range []int{1, 39, 77, 79, 80, deepest} {
		wantMerged(t, all, sureAt(d), nil, false)
		wantMerged(t, unsureAt(d), all, nil, false)
	}
	wantMerged(t, sureAt(steps(half, 0, 2)...), unsureAt(steps(half+1, 1, 2)...), nil, false)
	wantMerged(t, sureAt(steps(half+1, 0, 2)...), unsureAt(steps(half, 1, 2)...), nil, false)
	wantMerged(t, all, moved(all, 1, true), nil, false)
	wantMerged(t, all, moved(all, 2, true), nil, false)
	wantMerged(t, all[1:], moved(all[1:], 2, true), sureAt(steps(mostLayers, 2, 2)...), true)
	merged, ok := impl.LayersMerge(sureAt(steps(half, 0, 2)...), unsureAt(steps(half, 1, 2)...))
	if want := layersAt(steps(mostLayers, 0, 1), func(i int) bool { return i%2 == 0 }); !ok || !slices.Equal(merged, want) {
		t.Fatalf("LayersMerge returned %s, %t", namedLayers(merged), ok)
	}
}

func TestLayersMergeIsExact(t *testing.T) {
	succeeded, failed := 0, 0
	for _, p := range layerPairs() {
		want, ok := exactMerge(p[0], p[1])
		wantMerged(t, p[0], p[1], want, ok)
		if ok {
			succeeded++
		} else {
			failed++
		}
	}
	wantOften(t, succeeded, 10000)
	wantOften(t, failed, 1000)
}

func TestLayersDepthExamples(t *testing.T) {
	for _, e := range []struct {
		text string
		want []int
	}{
		{"3 5? 9 14", []int{3, 9, 14}}, {"0", []int{0}}, {"30000", []int{deepest}}, {"0 30000", []int{0, deepest}}, {"5?", nil}, {"0? 1 2? 3?", []int{1}}, {"1? 2? 3? 4", []int{4}}, {"0 1? 2? 3", []int{0, 3}},
	} {
		list := layersOf(e.text)
		for i, d := range e.want {
			wantSureDepth(t, list, i+1, d, true)
		}
		wantSureDepth(t, list, 0, 0, false)
		wantSureDepth(t, list, len(e.want)+1, 0, false)
	}
}

func TestLayersDepthOfEveryNumber(t *testing.T) {
	forLayers(func(list []impl.Layer) {
		sure := sureDepthsOf(list)
		for i, d := range sure {
			wantSureDepth(t, list, i+1, d, true)
		}
		for n := len(sure) + 1; n <= mostLayers+2; n++ {
			wantSureDepth(t, list, n, 0, false)
		}
		for _, n := range append(outsideDepths(), 0, -mostLayers, 2*mostLayers, deepest) {
			wantSureDepth(t, list, n, 0, false)
		}
	})
}

func TestLayersThickExamples(t *testing.T) {
	for _, e := range []struct {
		text string
		want []int
	}{
		{"3 5? 9 14", []int{6, 5}}, {"", nil}, {"5", nil}, {"5?", nil}, {"0", nil}, {"1? 2? 3?", nil}, {"1? 2 3?", nil}, {"0 1", []int{1}}, {"0 30000", []int{deepest}}, {"0 7? 30000", []int{deepest}},
		{"0? 3 4? 5? 6? 10 11?", []int{7}}, {"0 1? 2 3? 4", []int{2, 2}}, {"29999 30000", []int{1}}, {"0 1 3 6 10", []int{1, 2, 3, 4}},
	} {
		wantThick(t, layersOf(e.text), e.want)
	}
	wantThick(t, sureAt(steps(mostLayers, 9, 769)...), equalRow(mostLayers-1, 769))
	wantThick(t, unsureAt(steps(mostLayers, 9, 769)...), nil)
	forLayers(func(list []impl.Layer) { wantThick(t, list, exactThick(list)) })
}

func TestP100FirstLayersAreLayers(t *testing.T) {
	forLayers(func(list []impl.Layer) {
		for k := range len(list) + 1 {
			wantLayersValid(t, list[:k], true)
		}
		wantLayersValid(t, allAs(list, true), true)
		wantLayersValid(t, allAs(list, false), true)
		if len(list) > 0 {
			last := list[len(list)-1]
			wantLayersValid(t, slices.Concat(list, []impl.Layer{last}), false)
			wantLayersValid(t, slices.Concat(list, []impl.Layer{layer(last.Depth, !last.Sure)}), false)
		}
	})
}

func TestP101CountIsAdded(t *testing.T) {
	forYears(t, func(list []impl.Layer, top int, bottom int, least int, greatest int) {
		if least > greatest || greatest > len(list) {
			t.Fatalf("%s returned %d, %d", inLayers("LayersCount", list, top, bottom), least, greatest)
		}
		for _, d := range fewLayerDepths(list) {
			if d < top || d > bottom {
				continue
			}
			leastAbove, greatestAbove := yearsOf(t, list, top, d)
			wantYears(t, list, d, bottom, least-leastAbove, greatest-greatestAbove, true)
		}
	})
}

func TestP102CountOfAllSureAndOfNone(t *testing.T) {
	forYears(t, func(list []impl.Layer, top int, bottom int, _ int, greatest int) {
		wantYears(t, allAs(list, true), top, bottom, greatest, greatest, true)
		wantYears(t, allAs(list, false), top, bottom, 0, greatest, true)
	})
}

func TestP103HalfIsTheSumOfBothNumbersAndAdded(t *testing.T) {
	forYears(t, func(list []impl.Layer, top int, bottom int, least int, greatest int) {
		wantHalves(t, list, top, bottom, least+greatest, true)
		for _, d := range fewLayerDepths(list) {
			if d < top || d > bottom {
				continue
			}
			above, ok := impl.LayersHalf(list, top, d)
			wantHalves(t, list, d, bottom, least+greatest-above, ok)
		}
	})
}

func TestP104AgesGrowWithTheDepthAndTheAge(t *testing.T) {
	forAges(func(list []impl.Layer, age int, depth int) {
		wantAges(t, list, age, 0, age, age, true)
		least, greatest := agesOf(t, list, age, depth)
		if age < oldestAge {
			wantAges(t, list, age+1, depth, least+1, greatest+1, true)
		}
		if depth == deepest {
			return
		}
		nextLeast, nextGreatest := agesOf(t, list, age, depth+1)
		if nextLeast < least || nextLeast > least+1 || nextGreatest < greatest || nextGreatest > greatest+1 {
			t.Fatalf("%s returned %d, %d, and at the next depth %d, %d", inLayers("LayersAge", list, age, depth), least, greatest, nextLeast, nextGreatest)
		}
	})
}

func TestP105AgesDifferByTheYearsBetween(t *testing.T) {
	forYears(t, func(list []impl.Layer, top int, bottom int, least int, greatest int) {
		for _, age := range []int{-oldestAge, 0, oldestAge} {
			leastAbove, greatestAbove := agesOf(t, list, age, top)
			wantAges(t, list, age, bottom, leastAbove+least, greatestAbove+greatest, true)
		}
	})
}

func TestP106MergeExchangedAndWithItself(t *testing.T) {
	forMerged(t, func(a []impl.Layer, b []impl.Layer, merged []impl.Layer) {
		wantMerged(t, b, a, merged, true)
		wantMerged(t, a, a, a, true)
		wantMerged(t, b, b, b, true)
	})
}

func TestP107MergeHasTheLayersOfBoth(t *testing.T) {
	forMerged(t, func(a []impl.Layer, b []impl.Layer, merged []impl.Layer) {
		few := thinned(fewLayerDepths(merged), 6)
		for i, top := range few {
			for _, bottom := range append(few[i:], deepest) {
				least, greatest := yearsOf(t, merged, top, bottom)
				leastA, greatestA := yearsOf(t, a, top, bottom)
				leastB, greatestB := yearsOf(t, b, top, bottom)
				if least < max(leastA, leastB) || greatest < max(greatestA, greatestB) || least > leastA+leastB || greatest > greatestA+greatestB {
					t.Fatalf("%s has %d to %d years from %d to %d, the first list %d to %d, the second one %d to %d", namedMerge(a, b), least, greatest, top, bottom, leastA, greatestA, leastB, greatestB)
				}
			}
		}
	})
}

func TestP108MergeWithOneOfBothAgain(t *testing.T) {
	forMerged(t, func(a []impl.Layer, b []impl.Layer, merged []impl.Layer) {
		wantMerged(t, merged, a, merged, true)
		wantMerged(t, merged, b, merged, true)
		wantMerged(t, b, merged, merged, true)
	})
}

func TestP109CountToTheDepthOfASureLayer(t *testing.T) {
	times := 0
	forLayers(func(list []impl.Layer) {
		for n := range mostLayers + 2 {
			d, ok := impl.LayersDepth(list, n)
			if !ok {
				continue
			}
			times++
			least, _ := yearsOf(t, list, 0, d)
			wantNumber(t, "the years to "+inLayers("LayersDepth", list, n), least, n-1)
			if d < deepest {
				least, _ = yearsOf(t, list, 0, d+1)
				wantNumber(t, "the years to the depth next to "+inLayers("LayersDepth", list, n), least, n)
			}
		}
	})
	wantOften(t, times, 2000)
}

func TestP110DepthOfTheNextNumberIsGreater(t *testing.T) {
	forLayers(func(list []impl.Layer) {
		sure := len(sureDepthsOf(list))
		last := -1
		for n := 1; n <= sure; n++ {
			d, ok := impl.LayersDepth(list, n)
			if !ok || d <= last {
				t.Fatalf("%s returned %d, %t, and for the number ahead %d", inLayers("LayersDepth", list, n), d, ok, last)
			}
			last = d
		}
		for _, n := range []int{sure + 1, sure + 2, 2*sure + 1, mostLayers + 1, math.MaxInt} {
			wantSureDepth(t, list, n, 0, false)
		}
	})
}

func TestP111ThickIsFromTheFirstToTheLastSureLayer(t *testing.T) {
	forThick(t, func(list []impl.Layer, thick []int) {
		sure := sureDepthsOf(list)
		wantNumber(t, "the number of "+inLayers("LayersThick", list), len(thick), len(sure)-1)
		if slices.Min(thick) <= 0 {
			t.Fatalf("%s returned %v", inLayers("LayersThick", list), thick)
		}
		wantNumber(t, "the sum of "+inLayers("LayersThick", list), sumOfAmounts(thick), sure[len(sure)-1]-sure[0])
	})
}

func TestP112ThickOfTheSureLayersAlone(t *testing.T) {
	forThick(t, func(list []impl.Layer, thick []int) {
		wantThick(t, sureAt(sureDepthsOf(list)...), thick)
	})
}

func TestP113MergeAssociates(t *testing.T) {
	times := 0
	forMerged(t, func(a []impl.Layer, b []impl.Layer, merged []impl.Layer) {
		deeper := moved(a, 1, false)
		want, ok := impl.LayersMerge(merged, deeper)
		if !ok {
			return
		}
		times++
		rest, ok := impl.LayersMerge(b, deeper)
		if !ok {
			t.Fatalf("%s failed", namedMerge(b, deeper))
		}
		wantMerged(t, a, rest, want, true)
	})
	wantOften(t, times, 5000)
}

func TestP114CountOfAWiderRangeIsNotLess(t *testing.T) {
	forYears(t, func(list []impl.Layer, top int, bottom int, least int, greatest int) {
		for _, wider := range [][2]int{{0, bottom}, {top, deepest}} {
			leastWider, greatestWider := yearsOf(t, list, wider[0], wider[1])
			if leastWider < least || greatestWider < greatest {
				t.Fatalf("%s returned %d, %d, and from %d to %d %d, %d", inLayers("LayersCount", list, top, bottom), least, greatest, wider[0], wider[1], leastWider, greatestWider)
			}
		}
	})
}

func TestP115HalfOfAllSureAndOfNone(t *testing.T) {
	forYears(t, func(list []impl.Layer, top int, bottom int, _ int, _ int) {
		number := ahead(depthsOf(list), bottom) - ahead(depthsOf(list), top)
		wantHalves(t, allAs(list, true), top, bottom, 2*number, true)
		wantHalves(t, allAs(list, false), top, bottom, number, true)
	})
}

func TestP116AgesWithAFurtherLayer(t *testing.T) {
	times := 0
	forLayers(func(list []impl.Layer) {
		few := fewLayerDepths(list)
		for _, d := range few {
			merged, ok := impl.LayersMerge(list, sureAt(d))
			if !ok {
				continue
			}
			for _, depth := range few {
				times++
				least, greatest := agesOf(t, list, 50, depth)
				leastMerged, greatestMerged := agesOf(t, merged, 50, depth)
				if leastMerged < least || leastMerged > least+1 || greatestMerged < greatest || greatestMerged > greatest+1 {
					t.Fatalf("%s returned %d, %d, and with a sure layer at %d %d, %d", inLayers("LayersAge", list, 50, depth), least, greatest, d, leastMerged, greatestMerged)
				}
			}
		}
	})
	wantOften(t, times, 20000)
}

func TestP117ThickWithALayerInTheMiddleOfTheFirstSureOnes(t *testing.T) {
	times := 0
	forThick(t, func(list []impl.Layer, thick []int) {
		first, half := sureDepthsOf(list)[0], thick[0]/2
		merged, ok := impl.LayersMerge(list, sureAt(first+half))
		if !ok || half == 0 {
			return
		}
		times++
		wantThick(t, merged, slices.Concat([]int{half, thick[0] - half}, thick[1:]))
	})
	wantOften(t, times, 100)
}

func TestP118CountBetweenEqualDepthsAndWithoutLayers(t *testing.T) {
	forYears(t, func(list []impl.Layer, top int, bottom int, _ int, _ int) {
		wantYears(t, list, top, top, 0, 0, true)
		wantYears(t, list, bottom, bottom, 0, 0, true)
		wantYears(t, nil, top, bottom, 0, 0, true)
	})
	for d := range deepest + 1 {
		wantYears(t, layersOf("0? 1 15000 29999 30000"), d, d, 0, 0, true)
	}
}

// layerMemory has calls of all functions with layers, with arguments for which they succeed and fail; numbers are told as layers.
func layerMemory(lists [][]impl.Layer) memoryCheck[impl.Layer] {
	calls := map[string]listCall[impl.Layer]{
		"LayersValid": func(list []impl.Layer) ([]impl.Layer, bool) { return nil, impl.LayersValid(list) },
		"LayersThick": func(list []impl.Layer) ([]impl.Layer, bool) { return sureAt(impl.LayersThick(list)...), true },
		"LayersMerge with itself": func(list []impl.Layer) ([]impl.Layer, bool) {
			return impl.LayersMerge(list, list)
		},
		// Both halves are in one memory, so that writing behind one of them is seen.
		"LayersMerge of both halves": func(list []impl.Layer) ([]impl.Layer, bool) {
			return impl.LayersMerge(list[:len(list)/2], list[len(list)/2:])
		},
		"LayersMerge of both halves exchanged": func(list []impl.Layer) ([]impl.Layer, bool) {
			return impl.LayersMerge(list[len(list)/2:], list[:len(list)/2])
		},
	}
	for _, text := range []string{"", "0", "2?", "1? 3 30000?", "30000 0"} {
		calls["LayersMerge with ["+text+"] behind"] = func(list []impl.Layer) ([]impl.Layer, bool) { return impl.LayersMerge(list, layersOf(text)) }
		calls["LayersMerge with ["+text+"] ahead"] = func(list []impl.Layer) ([]impl.Layer, bool) { return impl.LayersMerge(layersOf(text), list) }
	}
	for _, n := range []int{-1, 0, 1, 2, 3, 17, mostLayers, deepest, deepest + 1} {
		s := fmt.Sprint(n)
		calls["LayersCount up to "+s] = func(list []impl.Layer) ([]impl.Layer, bool) {
			least, greatest, ok := impl.LayersCount(list, 1, n)
			return sureAt(least, greatest), ok
		}
		calls["LayersHalf from "+s] = func(list []impl.Layer) ([]impl.Layer, bool) {
			half, ok := impl.LayersHalf(list, n, 29998)
			return sureAt(half), ok
		}
		calls["LayersAge at "+s] = func(list []impl.Layer) ([]impl.Layer, bool) {
			least, greatest, ok := impl.LayersAge(list, 5, n)
			return sureAt(least, greatest), ok
		}
		calls["LayersDepth of "+s] = func(list []impl.Layer) ([]impl.Layer, bool) {
			depth, ok := impl.LayersDepth(list, n)
			return sureAt(depth), ok
		}
	}
	return memoryCheck[impl.Layer]{lists, calls, spoiledLayer, namedLayers}
}

func TestLayersFunctionsWriteNothing(t *testing.T) {
	layerMemory(append(sampleLayers(), noLayers()...)).wantNothingWritten(t)
}

func TestLayersFunctionsShareNothing(t *testing.T) {
	layerMemory(slices.Concat(layersWithin(0, 3), longLayers(), mixedLayers(30), noLayers()[:80])).wantNothingShared(t)
}

func TestLayersFunctionsReadNothingBehindAList(t *testing.T) {
	layerMemory(slices.Concat(longLayers(), mixedLayers(30), noLayers()[:80])).wantNothingReadBehind(t)
}

func TestLayersThickResultsShareNothing(t *testing.T) {
	forThick(t, func(list []impl.Layer, thick []int) {
		wantApart(t, inLayers("LayersThick", list), spoiledNumber, func() []int { return impl.LayersThick(list) })
	})
}
