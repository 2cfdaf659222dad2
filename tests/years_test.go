package tests

import (
	"math"
	"strconv"
	"strings"
	"testing"

	"loop.example/icecores/impl"
)

const (
	firstYear = -200000
	lastYear  = 200000
)

// eraTexts returns the texts of all years from firstYear on, counted through the eras as a
// calendar does (down to 1 BCE, then up from 1 CE), so that no formula of the program is repeated.
func eraTexts() []string {
	var list []string
	for n := 200001; n >= 1; n-- {
		list = append(list, strconv.Itoa(n)+" BCE")
	}
	for n := 1; n <= 200000; n++ {
		list = append(list, strconv.Itoa(n)+" CE")
	}
	return list
}

// eraNumbers returns the numbers of all years from firstYear on, negative for years BCE.
func eraNumbers() []int {
	var list []int
	for n := -200001; n <= 200000; n++ {
		if n != 0 {
			list = append(list, n)
		}
	}
	return list
}

// outsideYears are no years: next to both ends, and where sums and differences overflow.
func outsideYears() []int {
	return []int{
		lastYear + 1, lastYear + 2, 2 * lastYear, 1 << 32, 1<<32 + 5, math.MaxInt - 2000, math.MaxInt - 1, math.MaxInt,
		firstYear - 1, firstYear - 2, 2 * firstYear, -1 << 32, -1<<32 + 5, math.MinInt + 2000, math.MinInt + 1, math.MinInt,
	}
}

// spanNumbers are numbers of eras for which YearSpan succeeds.
func spanNumbers() []int {
	return []int{-200001, -200000, -199999, -1001, -44, -3, -2, -1, 1, 2, 3, 5, 44, 999, 1950, 2000, 199999, 200000}
}

// outsideNumbers are no numbers of years in their range.
func outsideNumbers() []int {
	return []int{
		0, 200001, 200002, 400000, 1 << 32, math.MaxInt - 1, math.MaxInt,
		-200002, -200003, -400001, -1 << 32, math.MinInt + 1, math.MinInt,
	}
}

func numberOf(text string) string {
	number, _, _ := strings.Cut(text, " ")
	return number
}

func wantPair(t *testing.T, call string, got int, ok bool, want int, wantOk bool) {
	t.Helper()
	if got != want || ok != wantOk {
		t.Fatalf("%s returned %d, %t, not %d, %t", call, got, ok, want, wantOk)
	}
}

func wantNoYear(t *testing.T, s string) {
	t.Helper()
	if year, ok := impl.YearFrom(s); ok || year != 0 {
		t.Fatalf("YearFrom(%q) returned %d, %t, not 0, false", s, year, ok)
	}
}

func TestYearMax(t *testing.T) {
	if impl.YearMax != 200000 {
		t.Errorf("YearMax is %d", impl.YearMax)
	}
}

func TestYearTextExamples(t *testing.T) {
	for _, c := range []struct {
		year int
		want string
	}{
		{5, "5 CE"}, {2, "2 CE"}, {1, "1 CE"}, {0, "1 BCE"}, {-1, "2 BCE"}, {-43, "44 BCE"}, {10, "10 CE"}, {-9, "10 BCE"},
		{1950, "1950 CE"}, {2000, "2000 CE"}, {199999, "199999 CE"}, {200000, "200000 CE"}, {-199999, "200000 BCE"}, {-200000, "200001 BCE"},
	} {
		if got := impl.YearText(c.year); got != c.want {
			t.Errorf("YearText(%d) returned %q, not %q", c.year, got, c.want)
		}
	}
}

func TestYearTextOfEveryYear(t *testing.T) {
	texts := eraTexts()
	if len(texts) != lastYear-firstYear+1 {
		t.Fatalf("there are %d texts", len(texts))
	}
	for i, want := range texts {
		if got := impl.YearText(firstYear + i); got != want {
			t.Fatalf("YearText(%d) returned %q, not %q", firstYear+i, got, want)
		}
	}
}

func TestYearTextOutside(t *testing.T) {
	for _, year := range outsideYears() {
		if got := impl.YearText(year); got != "" {
			t.Errorf("YearText(%d) returned %q", year, got)
		}
	}
}

func TestP1TextLeadsBackAndTellsTheEra(t *testing.T) {
	for year := firstYear; year <= lastYear; year++ {
		s := impl.YearText(year)
		back, ok := impl.YearFrom(s)
		wantPair(t, "YearFrom of "+s, back, ok, year, true)
		if !strings.HasSuffix(s, "CE") || strings.HasSuffix(s, "BCE") != (year <= 0) {
			t.Fatalf("YearText(%d) returned %q", year, s)
		}
	}
}

func TestP2SameNumberInTheOtherEra(t *testing.T) {
	for year := firstYear + 1; year <= lastYear; year++ {
		s, other := impl.YearText(year), impl.YearText(1-year)
		if s == "" || s == other || numberOf(s) != numberOf(other) {
			t.Fatalf("YearText(%d) returned %q, YearText(%d) %q", year, s, 1-year, other)
		}
	}
	if got := impl.YearText(1 - firstYear); got != "" {
		t.Errorf("YearText(%d) returned %q", 1-firstYear, got)
	}
}

func TestP3OnlyWholeTextsAreTaken(t *testing.T) {
	for i, s := range eraTexts() {
		year, ok := impl.YearFrom(s)
		wantPair(t, "YearFrom of "+s, year, ok, firstYear+i, true)
		if got := impl.YearText(year); got != s {
			t.Fatalf("YearText(%d) returned %q, not %q", year, got, s)
		}
		wantNoYear(t, s[:len(s)-1])
		wantNoYear(t, s+" ")
	}
}

func TestYearFromInvalid(t *testing.T) {
	for _, s := range []string{
		"", " ", "  ", "CE", "BCE", " CE", " BCE", "5", "5 ", "44", "-43", "5 5", "x CE", "5x CE", "x5 CE",
		"5CE", "5BCE", "5  CE", " 5 CE", "5 CE ", "5  BCE", " 5 BCE", "5 BCE ", "5 C E", "5 B CE", "1 000 CE",
		"5\tCE", "5\nCE", "5 CE\n", "\n5 CE", "5\x00CE", "5 CE\x00", "5\u00a0CE", "5 CE CE", "5 CE BCE", "5 BCE CE",
		"05 CE", "005 CE", "00 CE", "0005 BCE", "000000000000000000000000005 CE", "01 BCE",
		"0 CE", "0 BCE", "-0 CE", "-0 BCE", "+0 CE", "-5 CE", "+5 CE", "-5 BCE", "+5 BCE", "-1 BCE", "-1 CE", "--5 CE", "- 5 CE",
		"5 ce", "5 Ce", "5 cE", "5 bce", "5 BcE", "5 AD", "5 BC", "5 C", "5 B", "5 E", "5 CEE", "5 BBCE", "5 BCEE", "5 ACE", "CE 5", "BCE 5",
		"200001 CE", "200002 CE", "200002 BCE", "200003 BCE", "999999 CE", "999999 BCE", "1000000 CE", "2000000 CE", "2000010 BCE",
		"4294967301 CE", "4294967301 BCE", "18446744073709551621 CE", "18446744073709551617 BCE", "99999999999999999999999999 CE",
		"9223372036854775807 CE", "9223372036854775807 BCE", "9223372036854775808 CE", "9223372036854775808 BCE",
		"-9223372036854775808 CE", "-9223372036854775808 BCE", "-9223372036854775807 BCE",
		"0x5 CE", "0b1 CE", "0o7 CE", "5_0 CE", "1e2 CE", "5.0 CE", "5, CE", "1/1 CE", "\u0665 CE", "\uff15 CE", "\xff CE", "5 \xffCE", "5 \u0421\u0415",
	} {
		wantNoYear(t, s)
	}
	wantNoYear(t, strings.Repeat("1", 100000)+" CE")
	wantNoYear(t, strings.Repeat("0", 100000)+"1 CE")
	wantNoYear(t, "1"+strings.Repeat(" ", 100000)+"CE")
}

// TestYearFromNearTexts compares YearFrom with the list of all texts, for every text that is one byte off a year's text.
func TestYearFromNearTexts(t *testing.T) {
	years := map[string]int{}
	for i, s := range eraTexts() {
		years[s] = firstYear + i
	}
	check := func(s string) {
		want, wantOk := years[s]
		got, ok := impl.YearFrom(s)
		wantPair(t, "YearFrom("+strconv.Quote(s)+")", got, ok, want, wantOk)
	}
	for _, s := range []string{"1 CE", "1 BCE", "5 CE", "10 BCE", "1999 CE", "20000 CE", "200000 CE", "200000 BCE", "200001 BCE"} {
		for i := range len(s) + 1 {
			for b := range 256 {
				check(s[:i] + string([]byte{byte(b)}) + s[i:])
				if i < len(s) {
					check(s[:i] + string([]byte{byte(b)}) + s[i+1:])
				}
			}
			if i < len(s) {
				check(s[:i] + s[i+1:])
			}
		}
	}
}

func TestYearAgeAndOldExamples(t *testing.T) {
	for _, c := range []struct{ year, age, old int }{
		{1815, 185, 135}, {2000, 0, -50}, {2001, -1, -51}, {1999, 1, -49}, {1950, 50, 0}, {1951, 49, -1}, {1949, 51, 1},
		{1, 1999, 1949}, {0, 2000, 1950}, {-1, 2001, 1951}, {200000, -198000, -198050}, {-200000, 202000, 201950},
	} {
		age, ok := impl.YearAge(c.year)
		wantPair(t, "YearAge("+strconv.Itoa(c.year)+")", age, ok, c.age, true)
		old, ok := impl.YearOld(c.year)
		wantPair(t, "YearOld("+strconv.Itoa(c.year)+")", old, ok, c.old, true)
	}
	for _, year := range outsideYears() {
		age, ok := impl.YearAge(year)
		wantPair(t, "YearAge("+strconv.Itoa(year)+")", age, ok, 0, false)
		old, ok := impl.YearOld(year)
		wantPair(t, "YearOld("+strconv.Itoa(year)+")", old, ok, 0, false)
	}
}

func TestP4AgeLeadsBackAndIs50MoreThanOld(t *testing.T) {
	for year := firstYear; year <= lastYear; year++ {
		age, ok := impl.YearAge(year)
		wantPair(t, "YearAge("+strconv.Itoa(year)+")", age, ok, 2000-year, true)
		back, ok := impl.YearOf(age)
		wantPair(t, "YearOf("+strconv.Itoa(age)+")", back, ok, year, true)
		old, ok := impl.YearOld(year)
		wantPair(t, "YearOld("+strconv.Itoa(year)+")", old, ok, age-50, true)
	}
}

func TestP5OldAgeGrowsBackFrom1950(t *testing.T) {
	old, ok := impl.YearOld(1950)
	wantPair(t, "YearOld(1950)", old, ok, 0, true)
	for year := firstYear + 1; year <= lastYear; year++ {
		old, ok := impl.YearOld(year)
		if !ok {
			t.Fatalf("YearOld(%d) failed", year)
		}
		ahead, ok := impl.YearOld(year - 1)
		wantPair(t, "YearOld("+strconv.Itoa(year-1)+")", ahead, ok, old+1, true)
	}
}

func TestP6YearOfLeadsBack(t *testing.T) {
	for age := 2000 - lastYear; age <= 2000-firstYear; age++ {
		year, ok := impl.YearOf(age)
		wantPair(t, "YearOf("+strconv.Itoa(age)+")", year, ok, 2000-age, true)
		back, ok := impl.YearAge(year)
		wantPair(t, "YearAge("+strconv.Itoa(year)+")", back, ok, age, true)
		ahead, ok := impl.YearOf(age + 1)
		if year == firstYear {
			wantPair(t, "YearOf behind the last age", ahead, ok, 0, false)
		} else {
			wantPair(t, "YearOf("+strconv.Itoa(age+1)+")", ahead, ok, year-1, true)
		}
	}
}

func TestP7SpanTurned(t *testing.T) {
	n, ok := impl.YearSpan(-1, 1)
	wantPair(t, "YearSpan(-1, 1)", n, ok, 1, true)
	for _, a := range spanNumbers() {
		n, ok := impl.YearSpan(a, a)
		wantPair(t, "YearSpan of the same number "+strconv.Itoa(a), n, ok, 0, true)
		for _, b := range spanNumbers() {
			there, ok1 := impl.YearSpan(a, b)
			back, ok2 := impl.YearSpan(b, a)
			if !ok1 || !ok2 || there != -back {
				t.Fatalf("YearSpan(%d, %d) returned %d, %t, exchanged %d, %t", a, b, there, ok1, back, ok2)
			}
		}
	}
}

func TestP8SpanOverAThirdNumber(t *testing.T) {
	for _, a := range spanNumbers() {
		for _, b := range spanNumbers() {
			whole, ok := impl.YearSpan(a, b)
			if !ok {
				t.Fatalf("YearSpan(%d, %d) failed", a, b)
			}
			for _, c := range spanNumbers() {
				first, ok1 := impl.YearSpan(a, c)
				second, ok2 := impl.YearSpan(c, b)
				if !ok1 || !ok2 || first+second != whole {
					t.Fatalf("YearSpan(%d, %d) is %d, but over %d it is %d and %d", a, b, whole, c, first, second)
				}
			}
		}
	}
}

func TestP9SpanAcrossTheErasIsOneLess(t *testing.T) {
	for _, a := range spanNumbers() {
		for _, b := range spanNumbers() {
			want := b - a
			if a < 0 && b > 0 {
				want--
			}
			if a > 0 && b < 0 {
				want++
			}
			n, ok := impl.YearSpan(a, b)
			wantPair(t, "YearSpan("+strconv.Itoa(a)+", "+strconv.Itoa(b)+")", n, ok, want, true)
		}
	}
}

// TestYearSpanOfEveryNumber counts the years through both eras.
func TestYearSpanOfEveryNumber(t *testing.T) {
	for i, number := range eraNumbers() {
		n, ok := impl.YearSpan(-200001, number)
		wantPair(t, "YearSpan(-200001, "+strconv.Itoa(number)+")", n, ok, i, true)
		n, ok = impl.YearSpan(number, 200000)
		wantPair(t, "YearSpan("+strconv.Itoa(number)+", 200000)", n, ok, 400000-i, true)
	}
}

func TestYearSpanInvalid(t *testing.T) {
	others := append(spanNumbers(), outsideNumbers()...)
	for _, a := range outsideNumbers() {
		for _, b := range others {
			n, ok := impl.YearSpan(a, b)
			wantPair(t, "YearSpan("+strconv.Itoa(a)+", "+strconv.Itoa(b)+")", n, ok, 0, false)
			n, ok = impl.YearSpan(b, a)
			wantPair(t, "YearSpan("+strconv.Itoa(b)+", "+strconv.Itoa(a)+")", n, ok, 0, false)
		}
	}
}

func TestP10LaterYearsHaveOtherTexts(t *testing.T) {
	for year := firstYear; year <= lastYear; year++ {
		s := impl.YearText(year)
		if s == "" {
			t.Fatalf("YearText(%d) is empty", year)
		}
		if s == impl.YearText(year+1) || s == impl.YearText(year+1000) {
			t.Fatalf("YearText(%d) is %q, and so is that of a later year", year, s)
		}
	}
}

func TestP11YearOfStaysInRange(t *testing.T) {
	for age := -2*lastYear - 2; age <= 2*lastYear+2; age++ {
		year, ok := impl.YearOf(age)
		inRange := -198000 <= age && age <= 202000
		if ok != inRange || ok && (year < firstYear || year > lastYear) || !ok && year != 0 {
			t.Fatalf("YearOf(%d) returned %d, %t", age, year, ok)
		}
	}
	year, ok := impl.YearOf(2001 + impl.YearMax)
	wantPair(t, "YearOf(2001 + YearMax)", year, ok, 0, false)
	year, ok = impl.YearOf(1999 - impl.YearMax)
	wantPair(t, "YearOf(1999 - YearMax)", year, ok, 0, false)
}

func TestYearOfInvalid(t *testing.T) {
	for _, age := range []int{
		202001, 202002, 400000, 400001, 1 << 32, math.MaxInt - 1, math.MaxInt,
		-198001, -198002, -400000, -400001, -1 << 32, math.MinInt + 2000, math.MinInt + 1, math.MinInt,
	} {
		year, ok := impl.YearOf(age)
		wantPair(t, "YearOf("+strconv.Itoa(age)+")", year, ok, 0, false)
	}
}
