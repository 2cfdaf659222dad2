package tests

import (
	"strconv"
	"strings"
)

// listText returns the texts of the elements of a list, or their number if there are more than a test's message should have.
func listText[T any](list []T, most int, plural string, text func(x T) string) string {
	if len(list) > most {
		return "[" + strconv.Itoa(len(list)) + " " + plural + "]"
	}
	texts := []string{}
	for _, x := range list {
		texts = append(texts, text(x))
	}
	return "[" + strings.Join(texts, " ") + "]"
}

// callText returns the text of a call with a first argument and numbers.
func callText(name string, first string, numbers ...int) string {
	s := name + "(" + first
	for _, n := range numbers {
		s += ", " + strconv.Itoa(n)
	}
	return s + ")"
}
