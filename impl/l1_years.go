package impl

import (
	"strconv"
	"strings"
)

// YearMax is the greatest absolute value of a year.
const YearMax = 200000

const (
	ageStart countedYear = 2000 // the year of the age 0
	oldStart countedYear = 1950 // the year of the old age 0
)

// countedYear is a year in the count that has a year 0, so that the distance
// of two years is their plain difference.
type countedYear int

func (y countedYear) valid() bool {
	return -YearMax <= y && y <= YearMax
}

func (y countedYear) text() string {
	if y > 0 {
		return strconv.Itoa(int(y)) + " CE"
	}
	return strconv.Itoa(int(1-y)) + " BCE"
}

// until returns how many years lie from the beginning of a year to that of another one.
func (y countedYear) until(other countedYear) (int, bool) {
	if !y.valid() || !other.valid() {
		return 0, false
	}
	return int(other - y), true
}

// YearText returns the number of the year in the count of eras, a space, and CE or BCE, as in 5 CE and 1 BCE, or "" if it is not in its range.
func YearText(year int) string {
	y := countedYear(year)
	if !y.valid() {
		return ""
	}
	return y.text()
}

// YearFrom returns the year of which YearText is a text, and true.
func YearFrom(s string) (int, bool) {
	number, era, _ := strings.Cut(s, " ")
	year, err := strconv.Atoi(number)
	if err != nil {
		return 0, false
	}
	if era == "BCE" {
		year = 1 - year
	}
	// Atoi also takes signs, leading zeros and any number; only the year's own text is its text.
	if YearText(year) != s {
		return 0, false
	}
	return year, true
}

// YearAge returns the age of a year, and true.
func YearAge(year int) (int, bool) {
	return countedYear(year).until(ageStart)
}

// YearOld returns the old age of a year, and true.
func YearOld(year int) (int, bool) {
	return countedYear(year).until(oldStart)
}

// YearOf returns the year with an age, and true.
func YearOf(age int) (int, bool) {
	// The age is checked first so that the subtraction cannot overflow.
	if age < -2*YearMax || age > 2*YearMax {
		return 0, false
	}
	y := ageStart - countedYear(age)
	if !y.valid() {
		return 0, false
	}
	return int(y), true
}

// YearSpan returns how many years lie from the beginning of the first number of an era to the beginning of the second one.
func YearSpan(a int, b int) (int, bool) {
	if a == 0 || b == 0 {
		return 0, false
	}
	return eraYear(a).until(eraYear(b))
}

// eraYear returns the year of a number of an era, negative for one of years BCE: 1 BCE is the year 0.
func eraYear(number int) countedYear {
	if number < 0 {
		return countedYear(number + 1)
	}
	return countedYear(number)
}
