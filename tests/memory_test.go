package tests

import (
	"slices"
	"testing"
)

// listCall is a call with a list and whatever other arguments it has; what is no list is told as one.
type listCall[T any] func(list []T) ([]T, bool)

// memoryCheck checks that the functions of a chapter neither write into their arguments nor share memory.
type memoryCheck[T comparable] struct {
	lists   [][]T
	calls   map[string]listCall[T]
	spoiled T // no valid element; it is written over memory that no function may use
	named   func(list []T) string
}

// guarded returns a copy of a list with more memory behind it, and all this memory.
func (m memoryCheck[T]) guarded(list []T) ([]T, []T) {
	memory := slices.Concat(list, slices.Repeat([]T{m.spoiled}, 5))
	return memory[:len(list)], memory
}

func (m memoryCheck[T]) spoil(memory []T) {
	spoil(memory, m.spoiled)
}

// spoil writes a spoiled element over memory.
func spoil[T any](memory []T, spoiled T) {
	for i := range memory {
		memory[i] = spoiled
	}
}

// twoLists returns ways to call a function of two lists with one: beside another list, twice, and with parts of it, which are in one memory, so that writing behind one of them is seen.
func twoLists[T any](other []T) map[string]func(list []T) ([]T, []T) {
	return map[string]func(list []T) ([]T, []T){
		"a list and another one":  func(list []T) ([]T, []T) { return list, other },
		"another list and one":    func(list []T) ([]T, []T) { return other, list },
		"a list and itself":       func(list []T) ([]T, []T) { return list, list },
		"both halves":             func(list []T) ([]T, []T) { return list[:len(list)/2], list[len(list)/2:] },
		"both halves exchanged":   func(list []T) ([]T, []T) { return list[len(list)/2:], list[:len(list)/2] },
		"all and the first half":  func(list []T) ([]T, []T) { return list, list[:len(list)/2] },
		"the second half and all": func(list []T) ([]T, []T) { return list[len(list)/2:], list },
	}
}

// wantApartInACall writes over all the memory of each of two results of one call, and looks at all the memory of the other one.
func wantApartInACall[T comparable](t *testing.T, call string, spoiled T, a []T, b []T) {
	t.Helper()
	a, b = a[:cap(a)], b[:cap(b)]
	wantA, wantB := slices.Clone(a), slices.Clone(b)
	spoil(a, spoiled)
	if !slices.Equal(b, wantB) {
		t.Fatalf("the results of %s share memory", call)
	}
	copy(a, wantA)
	spoil(b, spoiled)
	if !slices.Equal(a, wantA) {
		t.Fatalf("the results of %s share memory", call)
	}
}

// wantApart calls each of some functions twice, writes over all the memory of each result in turn, and looks at the other results and at those of further calls.
func wantApart[T comparable](t *testing.T, calls string, spoiled T, functions ...func() []T) {
	t.Helper()
	results, wants := [][]T{}, [][]T{}
	for _, f := range slices.Concat(functions, functions) {
		got := f()
		results, wants = append(results, got), append(wants, slices.Clone(got))
	}
	for i, got := range results {
		spoil(got[:cap(got)], spoiled)
		// The results ahead are written over already.
		for k := i + 1; k < len(results); k++ {
			if !slices.Equal(results[k], wants[k]) {
				t.Fatalf("two results of %s share memory", calls)
			}
		}
	}
	for i, f := range functions {
		if !slices.Equal(f(), wants[i]) {
			t.Fatalf("%s returned something else once more", calls)
		}
	}
}

// wantSame checks that two results of a call are the same.
func (m memoryCheck[T]) wantSame(t *testing.T, call string, got []T, ok bool, want []T, wantOk bool) {
	t.Helper()
	if !slices.Equal(got, want) || ok != wantOk {
		t.Fatalf("%s returned %s, %t, not %s, %t", call, m.named(got), ok, m.named(want), wantOk)
	}
}

func (m memoryCheck[T]) wantNothingWritten(t *testing.T) {
	t.Helper()
	for _, given := range m.lists {
		list, memory := m.guarded(given)
		before := slices.Clone(memory)
		for name, call := range m.calls {
			call(list)
			if !slices.Equal(memory, before) {
				t.Fatalf("%s changed its argument %s to %s", name, m.named(before), m.named(memory))
			}
		}
	}
}

// wantNothingShared writes over all the memory of each result in turn, and then over that of the argument.
func (m memoryCheck[T]) wantNothingShared(t *testing.T) {
	t.Helper()
	type kept struct {
		name      string
		got, want []T
		ok        bool
	}
	for _, given := range m.lists {
		list, memory := m.guarded(given)
		before := slices.Clone(memory)
		results := []kept{}
		for name, call := range m.calls {
			for range 2 {
				got, ok := call(list)
				results = append(results, kept{name, got, slices.Clone(got), ok})
			}
		}
		for i, r := range results {
			m.spoil(r.got[:cap(r.got)])
			if !slices.Equal(memory, before) {
				t.Fatalf("the result of %s of %s shares memory with its argument", r.name, m.named(given))
			}
			// The results ahead are written over already.
			for _, other := range results[i+1:] {
				if !slices.Equal(other.got, other.want) {
					t.Fatalf("the results of %s and %s of %s share memory", r.name, other.name, m.named(given))
				}
			}
		}
		for _, r := range results {
			again, ok := m.calls[r.name](list)
			m.wantSame(t, r.name+" of "+m.named(given)+" once more", again, ok, r.want, r.ok)
			m.spoil(memory)
			m.wantSame(t, r.name+" of "+m.named(given)+" behind a change of the argument", again, ok, r.want, r.ok)
			copy(memory, before)
		}
	}
}

// wantNothingReadBehind calls with the first parts of lists, which have valid elements behind their ends.
func (m memoryCheck[T]) wantNothingReadBehind(t *testing.T) {
	t.Helper()
	for _, given := range m.lists {
		memory := slices.Clone(given)
		for k := range len(given) + 1 {
			first, alone := memory[:k], slices.Clip(slices.Clone(given[:k]))
			for name, call := range m.calls {
				want, wantOk := call(alone)
				got, ok := call(first)
				m.wantSame(t, name+" of "+m.named(first), got, ok, want, wantOk)
				if !slices.Equal(memory, given) {
					t.Fatalf("%s of %s changed the memory behind it to %s", name, m.named(first), m.named(memory))
				}
			}
		}
	}
}
