package tests

import (
	"math"
	"math/bits"
	"slices"
	"testing"

	"loop.example/g00698/impl"
)

var groups = []int{3, 5}

var noGroups = []int{math.MinInt, -5, -3, -1, 0, 1, 2, 4, 6, 7, 3 + 1<<32, math.MaxInt}

// numbersIn is the list of the bits of mask, rising.
func numbersIn(mask int) []int {
	var list []int
	for i := range bits.UintSize {
		if mask>>i&1 == 1 {
			list = append(list, i)
		}
	}
	return list
}

// masksOf is all sets of k numbers below n, as masks.
func masksOf(n, k int) []int {
	var masks []int
	for mask := range 1 << n {
		if bits.OnesCount(uint(mask)) == k {
			masks = append(masks, mask)
		}
	}
	return masks
}

// allIntersect tells, by masks alone, whether any two sets of k of n intersect.
func allIntersect(n, k int) bool {
	for _, a := range masksOf(n, k) {
		for _, b := range masksOf(n, k) {
			if a&b == 0 {
				return false
			}
		}
	}
	return true
}

func repeated(list []int, times int) [][]int {
	return slices.Repeat([][]int{list}, times)
}

func TestIsGroup(t *testing.T) {
	if impl.MaxN != 5 {
		t.Error("MaxN is", impl.MaxN)
	}
	for _, n := range groups {
		if !impl.IsGroup(n) {
			t.Error("no group:", n)
		}
	}
	for _, n := range noGroups {
		if impl.IsGroup(n) {
			t.Error("a group:", n)
		}
	}
}

func TestMajority(t *testing.T) {
	for n, want := range map[int]int{3: 2, 5: 3} {
		if got, ok := impl.Majority(n); got != want || !ok {
			t.Error("Majority", n, got, ok)
		}
	}
	for _, n := range noGroups {
		if got, ok := impl.Majority(n); got != 0 || ok {
			t.Error("Majority of no group", n, got, ok)
		}
	}
}

func TestPromise1MajoritiesIntersect(t *testing.T) {
	for _, n := range groups {
		majority, _ := impl.Majority(n)
		for k := range n + 1 {
			want := k >= majority
			if allIntersect(n, k) != want {
				t.Errorf("n %d: majority %d, but sets of %d intersect: %v", n, majority, k, !want)
			}
			sets, ok := impl.SetsOf(n, k)
			if !ok {
				t.Fatal("SetsOf", n, k)
			}
			if got, ok := impl.AllMeet(sets, sets); got != want || !ok {
				t.Error("AllMeet of all sets", n, k, got, ok)
			}
		}
	}
}

func TestPromise1LeastMeetingIsMajority(t *testing.T) {
	for _, n := range groups {
		majority, _ := impl.Majority(n)
		if got, ok := impl.LeastMeeting(n); got != majority || !ok {
			t.Error("LeastMeeting", n, got, ok)
		}
	}
	for _, n := range noGroups {
		if got, ok := impl.LeastMeeting(n); got != 0 || ok {
			t.Error("LeastMeeting of no group", n, got, ok)
		}
	}
}

func TestSetsOfWrittenOut(t *testing.T) {
	cases := []struct {
		n, k int
		want [][]int
	}{
		{3, 0, [][]int{{}}},
		{3, 1, [][]int{{0}, {1}, {2}}},
		{3, 2, [][]int{{0, 1}, {0, 2}, {1, 2}}},
		{3, 3, [][]int{{0, 1, 2}}},
		{5, 0, [][]int{{}}},
		{5, 2, [][]int{{0, 1}, {0, 2}, {0, 3}, {0, 4}, {1, 2}, {1, 3}, {1, 4}, {2, 3}, {2, 4}, {3, 4}}},
		{5, 4, [][]int{{0, 1, 2, 3}, {0, 1, 2, 4}, {0, 1, 3, 4}, {0, 2, 3, 4}, {1, 2, 3, 4}}},
		{5, 5, [][]int{{0, 1, 2, 3, 4}}},
	}
	for _, c := range cases {
		if got, ok := impl.SetsOf(c.n, c.k); !ok || !sameLists(got, c.want) {
			t.Error("SetsOf", c.n, c.k, got, ok)
		}
	}
}

func TestSetsOfIsAllSets(t *testing.T) {
	for _, n := range groups {
		for k := range n + 1 {
			var want [][]int
			for _, mask := range masksOf(n, k) {
				want = append(want, numbersIn(mask))
			}
			slices.SortFunc(want, slices.Compare[[]int])
			if got, ok := impl.SetsOf(n, k); !ok || !sameLists(got, want) {
				t.Error("SetsOf", n, k, got, ok)
			}
		}
	}
}

func TestSetsOfInvalid(t *testing.T) {
	check := func(n, k int) {
		if got, ok := impl.SetsOf(n, k); len(got) != 0 || ok {
			t.Error("SetsOf", n, k, got, ok)
		}
	}
	for _, n := range groups {
		for _, k := range []int{math.MinInt, -1, n + 1, math.MaxInt} {
			check(n, k)
		}
	}
	for _, n := range noGroups {
		for _, k := range []int{math.MinInt, -1, 0, 1, n, math.MaxInt} {
			check(n, k)
		}
	}
}

func TestAllMeet(t *testing.T) {
	cases := []struct {
		name string
		a, b [][]int
		want bool
	}{
		{"one common", [][]int{{0, 1}}, [][]int{{1, 2}}, true},
		{"none common", [][]int{{0, 1}}, [][]int{{2, 3}}, false},
		{"each with each", [][]int{{0, 1}, {2, 1}}, [][]int{{1}, {2, 0}}, true},
		{"last with last not", [][]int{{0, 1}, {1}}, [][]int{{1}, {0}}, false},
		{"first with first not", [][]int{{1}, {0, 1}}, [][]int{{0}, {1}}, false},
		{"a's own lists need not meet", [][]int{{0}, {1}}, [][]int{{0, 1}}, true},
		{"b's own lists need not meet", [][]int{{0, 1}}, [][]int{{0}, {1}}, true},
		{"unordered, some twice", [][]int{{7, 3, 7}}, [][]int{{9, 7, 9}}, true},
		{"any numbers", [][]int{{math.MinInt, -1}}, [][]int{{math.MaxInt, -1}}, true},
		{"unlike signs", [][]int{{math.MinInt, 1}}, [][]int{{math.MaxInt, -1}}, false},
		{"no lists", nil, nil, true},
		{"no lists in a", nil, [][]int{{}}, true},
		{"no lists in b", [][]int{{}}, [][]int{}, true},
		{"an empty list in a", [][]int{{0}, {}}, [][]int{{0}}, false},
		{"an empty list in b", [][]int{{0}}, [][]int{nil, {0}}, false},
		{"only empty lists", [][]int{{}}, [][]int{{}}, false},
	}
	for _, c := range cases {
		if got, ok := impl.AllMeet(c.a, c.b); got != c.want || !ok {
			t.Error("AllMeet:", c.name, got, ok)
		}
	}
}

func TestAllMeetOfAllPairs(t *testing.T) {
	for a := range 1 << 5 {
		for b := range 1 << 5 {
			lists := [][]int{numbersIn(a), numbersIn(b)}
			want := a&b != 0
			if got, ok := impl.AllMeet(lists[:1], lists[1:]); got != want || !ok {
				t.Error("AllMeet", lists, got, ok)
			}
		}
	}
}

func TestAllMeetLimit(t *testing.T) {
	full, over, one := repeated([]int{4}, 40), repeated([]int{4}, 41), repeated([]int{4}, 1)
	for _, c := range [][2][][]int{{full, full}, {full, one}, {one, full}} {
		if got, ok := impl.AllMeet(c[0], c[1]); !got || !ok {
			t.Error("AllMeet of", len(c[0]), "and", len(c[1]), "lists:", got, ok)
		}
	}
	unlike := append(repeated([]int{4}, 39), []int{3})
	if got, ok := impl.AllMeet(full, unlike); got || !ok {
		t.Error("AllMeet with an unlike list 40:", got, ok)
	}
	if got, ok := impl.AllMeet(unlike, full); got || !ok {
		t.Error("AllMeet of an unlike list 40:", got, ok)
	}
	for _, c := range [][2][][]int{{over, over}, {over, one}, {one, over}, {over, nil}, {nil, over}, {over, full}, {full, over}} {
		if got, ok := impl.AllMeet(c[0], c[1]); got || ok {
			t.Error("AllMeet of", len(c[0]), "and", len(c[1]), "lists:", got, ok)
		}
	}
}

func TestWithoutOnes(t *testing.T) {
	for _, n := range groups {
		all := 1<<n - 1
		for mask := range 1 << n {
			gone, want := numbersIn(mask), numbersIn(all&^mask)
			turned := slices.Clone(gone)
			slices.Reverse(turned)
			for _, list := range [][]int{gone, turned, slices.Concat(turned, gone, turned)} {
				if got, ok := impl.WithoutOnes(n, list); !ok || !slices.Equal(got, want) {
					t.Error("WithoutOnes", n, list, got, ok)
				}
			}
		}
	}
	if got, ok := impl.WithoutOnes(5, slices.Repeat([]int{2, 4}, 1000)); !ok || !slices.Equal(got, []int{0, 1, 3}) {
		t.Error("WithoutOnes of a long list", got, ok)
	}
}

func TestWithoutOnesInvalid(t *testing.T) {
	check := func(n int, gone []int) {
		if got, ok := impl.WithoutOnes(n, gone); len(got) != 0 || ok {
			t.Error("WithoutOnes", n, gone, got, ok)
		}
	}
	for _, n := range groups {
		for _, bad := range []int{math.MinInt, -1, n, n + 1, math.MaxInt} {
			check(n, []int{bad})
			check(n, []int{bad, 0, 1})
			check(n, []int{0, bad, 1})
			check(n, []int{0, 1, bad})
		}
	}
	for _, n := range noGroups {
		for _, gone := range [][]int{nil, {}, {0}, {-1}, {n}} {
			check(n, gone)
		}
	}
}

func TestPromise22Chapter1AcceptsAll(t *testing.T) {
	numbers := slices.Concat(groups, noGroups)
	lists := [][]int{nil, {}, {0}, numbers, slices.Repeat(numbers, 50)}
	for _, n := range numbers {
		impl.IsGroup(n)
		impl.Majority(n)
		impl.LeastMeeting(n)
		for _, k := range numbers {
			impl.SetsOf(n, k)
		}
		for _, list := range lists {
			impl.WithoutOnes(n, list)
		}
	}
	for _, a := range lists {
		for _, b := range lists {
			for _, times := range []int{0, 1, 40, 41, 500} {
				impl.AllMeet(repeated(a, times), repeated(b, times))
				impl.AllMeet(repeated(a, times), [][]int{b})
				impl.AllMeet([][]int{a}, repeated(b, times))
			}
		}
	}
}

func TestPromise22WithoutOnesKeepsArguments(t *testing.T) {
	for _, n := range groups {
		// 9 behind the length would make the list a bad one, 1 would take 1 away.
		for _, rest := range []int{9, 1} {
			for _, want := range [][]int{{}, {4 % n}, {2, 0, 2}, {0, -1, 2}, {2, 0, n}} {
				gone := withHidden(want, rest)
				got, ok := impl.WithoutOnes(n, gone)
				again, okAgain := impl.WithoutOnes(n, slices.Clone(want))
				if ok != okAgain || !slices.Equal(got, again) {
					t.Error("WithoutOnes reads behind the length:", n, want, got, ok)
				}
				checkNoneShared(t, "WithoutOnes", [][]int{got, again})
				checkKept(t, "WithoutOnes", gone, want, rest)
			}
		}
	}
}

func TestPromise22AllMeetKeepsArguments(t *testing.T) {
	const rest = 8
	cases := []struct {
		a, b     [][]int
		want, ok bool
	}{
		{[][]int{{3, 1}, {2, 1}}, [][]int{{1, 0}, {2, 1, 2}}, true, true},
		{[][]int{{3, 1}, {}}, [][]int{{1, 0}}, false, true},
		{[][]int{{3, 1}}, [][]int{{2, 0}}, false, true},
		{repeated([]int{3, 1}, 40), repeated([]int{3, 2}, 40), true, true},
		{repeated([]int{3, 1}, 41), repeated([]int{3, 2}, 1), false, false},
	}
	for _, c := range cases {
		a, b := listsWithHidden(c.a, rest), listsWithHidden(c.b, rest)
		if got, ok := impl.AllMeet(a, b); got != c.want || ok != c.ok {
			t.Error("AllMeet reads behind a length:", c.a, c.b, got, ok)
		}
		checkListsKept(t, "AllMeet", a, c.a, rest)
		checkListsKept(t, "AllMeet", b, c.b, rest)
	}
}

func TestPromise22SetsOfIsNewMemory(t *testing.T) {
	for _, n := range groups {
		for k := range n + 1 {
			first, _ := impl.SetsOf(n, k)
			want := make([][]int, len(first))
			for i := range first {
				want[i] = slices.Clone(first[i])
			}
			checkNoneShared(t, "SetsOf", first)
			if again, ok := impl.SetsOf(n, k); !ok || !sameLists(again, want) {
				t.Error("SetsOf differs at the second call:", n, k, again, ok)
			}
		}
	}
}
