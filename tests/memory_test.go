package tests

import (
	"slices"
	"testing"
)

// listCall is a call with a list and whatever other arguments it has; what is no list is told as one.
type listCall[T any] func(list []T) ([]T, bool)

// memoryCheck checks that the functions of a chapter neither write into their arguments nor share memory.
type memoryCheck[T comparable] struct {
	lists   [][]T
	calls   map[string]listCall[T]
	spoiled T // no valid element; it is written over memory that no function may use
	named   func(list []T) string
}

// guarded returns a copy of a list with more memory behind it, and all this memory.
func (m memoryCheck[T]) guarded(list []T) ([]T, []T) {
	memory := slices.Concat(list, slices.Repeat([]T{m.spoiled}, 5))
	return memory[:len(list)], memory
}

func (m memoryCheck[T]) spoil(memory []T) {
	for i := range memory {
		memory[i] = m.spoiled
	}
}

// wantSame checks that two results of a call are the same.
func (m memoryCheck[T]) wantSame(t *testing.T, call string, got []T, ok bool, want []T, wantOk bool) {
	t.Helper()
	if !slices.Equal(got, want) || ok != wantOk {
		t.Fatalf("%s returned %s, %t, not %s, %t", call, m.named(got), ok, m.named(want), wantOk)
	}
}

func (m memoryCheck[T]) wantNothingWritten(t *testing.T) {
	t.Helper()
	for _, given := range m.lists {
		list, memory := m.guarded(given)
		before := slices.Clone(memory)
		for name, call := range m.calls {
			call(list)
			if !slices.Equal(memory, before) {
				t.Fatalf("%s changed its argument %s to %s", name, m.named(before), m.named(memory))
			}
		}
	}
}

// wantNothingShared writes over all the memory of each result in turn, and then over that of the argument.
func (m memoryCheck[T]) wantNothingShared(t *testing.T) {
	t.Helper()
	type kept struct {
		name      string
		got, want []T
		ok        bool
	}
	for _, given := range m.lists {
		list, memory := m.guarded(given)
		before := slices.Clone(memory)
		results := []kept{}
		for name, call := range m.calls {
			for range 2 {
				got, ok := call(list)
				results = append(results, kept{name, got, slices.Clone(got), ok})
			}
		}
		for i, r := range results {
			m.spoil(r.got[:cap(r.got)])
			if !slices.Equal(memory, before) {
				t.Fatalf("the result of %s of %s shares memory with its argument", r.name, m.named(given))
			}
			// The results ahead are written over already.
			for _, other := range results[i+1:] {
				if !slices.Equal(other.got, other.want) {
					t.Fatalf("the results of %s and %s of %s share memory", r.name, other.name, m.named(given))
				}
			}
		}
		for _, r := range results {
			again, ok := m.calls[r.name](list)
			m.wantSame(t, r.name+" of "+m.named(given)+" once more", again, ok, r.want, r.ok)
			m.spoil(memory)
			m.wantSame(t, r.name+" of "+m.named(given)+" behind a change of the argument", again, ok, r.want, r.ok)
			copy(memory, before)
		}
	}
}

// wantNothingReadBehind calls with the first parts of lists, which have valid elements behind their ends.
func (m memoryCheck[T]) wantNothingReadBehind(t *testing.T) {
	t.Helper()
	for _, given := range m.lists {
		memory := slices.Clone(given)
		for k := range len(given) + 1 {
			first, alone := memory[:k], slices.Clip(slices.Clone(given[:k]))
			for name, call := range m.calls {
				want, wantOk := call(alone)
				got, ok := call(first)
				m.wantSame(t, name+" of "+m.named(first), got, ok, want, wantOk)
				if !slices.Equal(memory, given) {
					t.Fatalf("%s of %s changed the memory behind it to %s", name, m.named(first), m.named(memory))
				}
			}
		}
	}
}
