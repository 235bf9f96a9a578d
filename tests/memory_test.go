package tests

import (
	"slices"
	"testing"
)

// hidden is how many numbers withHidden puts behind a list's length.
const hidden = 3

// withHidden copies list and puts rest behind its length, where no function may
// read or write.
func withHidden[T any](list []T, rest T) []T {
	long := slices.Clone(list)
	for range hidden {
		long = append(long, rest)
	}
	return long[:len(list)]
}

// checkKept reports where got, made by withHidden(want, rest), was written to.
func checkKept[T comparable](t *testing.T, what string, got, want []T, rest T) {
	t.Helper()
	if !slices.Equal(got, want) {
		t.Errorf("%s: the argument became %v, was %v", what, got, want)
	}
	for _, one := range got[len(got) : len(got)+hidden] {
		if one != rest {
			t.Errorf("%s: wrote %v behind the length of %v", what, one, want)
		}
	}
}

// listsWithHidden is withHidden of each list, and of the list of them, behind
// whose length stands one list of rest alone.
func listsWithHidden(lists [][]int, rest int) [][]int {
	var long [][]int
	for _, list := range lists {
		long = append(long, withHidden(list, rest))
	}
	return append(long, []int{rest})[:len(lists)]
}

func checkListsKept(t *testing.T, what string, got, want [][]int, rest int) {
	t.Helper()
	for i := range want {
		checkKept(t, what, got[i], want[i], rest)
	}
	if behind := got[:len(got)+1][len(got)]; !slices.Equal(behind, []int{rest}) {
		t.Errorf("%s: wrote %v behind the length of %v", what, behind, want)
	}
}

// checkNoneShared is checkApart of lists of numbers.
func checkNoneShared(t *testing.T, what string, lists [][]int) {
	t.Helper()
	checkApart(t, what, lists, func(number *int) *int { return number })
}

// checkApart writes to all the memory of each list, up to its capacity, and
// reports where that shows in another one. Of a member it writes one number.
func checkApart[T any](t *testing.T, what string, lists [][]T, numberOf func(*T) *int) {
	t.Helper()
	for i, list := range lists {
		whole := list[:cap(list)]
		for j := range whole {
			*numberOf(&whole[j]) = -1 - i
		}
	}
	for i, list := range lists {
		whole := list[:cap(list)]
		for j := range whole {
			if number := *numberOf(&whole[j]); number != -1-i {
				t.Errorf("%s: lists %d and %d share memory", what, i, -1-number)
			}
		}
	}
}

func sameLists(a, b [][]int) bool {
	return slices.EqualFunc(a, b, slices.Equal[[]int])
}
