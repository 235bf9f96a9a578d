package tests

import (
	"math"
	"slices"
	"testing"

	"loop.example/g00698/impl"
)

// graphArgs is what the functions of chapter 5 are given.
type graphArgs struct {
	g            [][]int
	k            int
	key, l, have []int
}

// graphAnswers is what all of them answer of it.
type graphAnswers struct {
	isGood, isOrder               bool
	groups                        [][]int
	reached, order, closed        []int
	hasGroups, hasReached         bool
	hasOrder, hasAsked, hasClosed bool
}

func (a graphArgs) answers() graphAnswers {
	var got graphAnswers
	got.isGood = impl.GoodGraph(a.g)
	got.groups, got.hasGroups = impl.ComponentsOf(a.g)
	got.reached, got.hasReached = impl.ReachedFrom(a.g, a.k)
	got.order, got.hasOrder = impl.OrderOf(a.g, a.key)
	got.isOrder, got.hasAsked = impl.IsOrder(a.g, a.key, a.l)
	got.closed, got.hasClosed = impl.ClosedIn(a.g, a.have)
	return got
}

func cloneLists(lists [][]int) [][]int {
	var clones [][]int
	for _, list := range lists {
		clones = append(clones, slices.Clone(list))
	}
	return clones
}

func (a graphArgs) clone() graphArgs {
	return graphArgs{cloneLists(a.g), a.k, slices.Clone(a.key), slices.Clone(a.l), slices.Clone(a.have)}
}

func (a graphAnswers) bools() [7]bool {
	return [...]bool{a.isGood, a.isOrder, a.hasGroups, a.hasReached, a.hasOrder, a.hasAsked, a.hasClosed}
}

func (a graphAnswers) same(b graphAnswers) bool {
	return a.bools() == b.bools() && sameLists(a.groups, b.groups) && slices.Equal(a.reached, b.reached) &&
		slices.Equal(a.order, b.order) && slices.Equal(a.closed, b.closed)
}

// someGraphArgs is good graphs with arguments that are as said with each.
func someGraphArgs() []graphArgs {
	m := mixer(19)
	var all []graphArgs
	for i, g := range someGraphs() {
		a := graphArgs{g: g, key: keysOf(&m, len(g))}
		for point := range g {
			if m.next(4) > 0 {
				a.have = append(a.have, point)
			}
		}
		if len(g) > 0 {
			a.k = m.next(len(g))
		}
		a.l = m.mixed(len(g))
		if i%2 == 0 {
			a.l = plainOrder(plainLeads(g), a.key)
		}
		all = append(all, a)
	}
	return all
}

// badGraphArgs is arguments of which few are as said.
func badGraphArgs() []graphArgs {
	numbers := []int{math.MinInt, -1, 0, 1, 2, 3, 39, 40, 41, 999999, 1000000, 1 << 32, math.MaxInt}
	lists := [][]int{
		nil, {}, {0}, {0, 1}, {1, 0}, {1, 1}, {0, 1, 2}, {2, 1, 0}, {0, 999999, 5}, {-1, 0, 1}, {0, 1, 3}, {math.MinInt, math.MaxInt, 0},
		numbersBelow(40), numbersBelow(41), slices.Repeat([]int{1}, 40), slices.Repeat(numbers, 50), numbers,
	}
	graphs := append(badGraphs(), nil, lists[4:7], lists[9:12], slices.Repeat([][]int{{0, 2}}, 3), ring(3), ring(40), make([][]int, 2), lists)
	var all []graphArgs
	for i, g := range graphs {
		for j, key := range lists {
			for k, l := range lists {
				all = append(all, graphArgs{g, numbers[(i+j+k)%len(numbers)], key, l, lists[(i+j+2*k)%len(lists)]})
			}
		}
	}
	return all
}

func TestPromise22Chapter5KeepsArguments(t *testing.T) {
	args := someGraphArgs()
	for i, bad := range badGraphArgs() {
		if i%11 == 0 {
			args = append(args, bad)
		}
	}
	for _, a := range args {
		want := a.answers()
		// Each of these would make a good list a bad one, or a longer one.
		for _, rest := range []int{-1, len(a.g) - 1, len(a.g), 0} {
			long := graphArgs{
				listsWithHidden(a.g, rest), a.k,
				withHidden(a.key, rest), withHidden(a.l, rest), withHidden(a.have, rest),
			}
			if got := long.answers(); !got.same(want) {
				t.Error("reads behind a length:", a, rest, got, "not", want)
			}
			checkListsKept(t, "the graph", long.g, a.g, rest)
			checkKept(t, "the keys", long.key, a.key, rest)
			checkKept(t, "IsOrder's list", long.l, a.l, rest)
			checkKept(t, "ClosedIn's list", long.have, a.have, rest)
		}
	}
}

// checkNoListsShared is checkNoneShared of lists of lists, but not of the
// numbers in them.
func checkNoListsShared(t *testing.T, what string, all [][][]int) {
	t.Helper()
	for i := range all {
		whole := all[i][:cap(all[i])]
		for j := range whole {
			whole[j] = make([]int, i)
		}
	}
	for i := range all {
		for _, list := range all[i][:cap(all[i])] {
			if len(list) != i {
				t.Errorf("%s: lists of lists %d and %d share memory", what, i, len(list))
			}
		}
	}
}

func TestPromise22Chapter5IsNewMemory(t *testing.T) {
	for _, a := range someGraphArgs() {
		given, want := a.clone(), a.clone().answers()
		first, second := given.answers(), given.answers()
		numbers := slices.Concat(given.g, [][]int{given.key, given.l, given.have})
		for _, got := range []graphAnswers{first, second} {
			if !got.same(want) {
				t.Error("differs at another call:", a, got, "not", want)
			}
			numbers = slices.Concat(numbers, got.groups, [][]int{got.reached, got.order, got.closed})
		}
		checkNoneShared(t, "chapter 5", numbers)
		checkNoListsShared(t, "chapter 5", [][][]int{given.g, first.groups, second.groups})
		if again := a.answers(); !again.same(want) {
			t.Error("differs at a later call:", a, again, "not", want)
		}
	}
}

// isRisingList tells whether list is rising numbers in 0..n-1.
func isRisingList(list []int, n int) bool {
	sorted := slices.Compact(slices.Sorted(slices.Values(list)))
	return slices.Equal(list, sorted) && (len(list) == 0 || list[0] >= 0 && list[len(list)-1] < n)
}

// areKeys tells whether list is n unlike keys.
func areKeys(list []int, n int) bool {
	return len(list) == n && isRisingList(slices.Sorted(slices.Values(list)), 1000000)
}

func (a graphArgs) isGoodGraph() bool {
	for _, list := range a.g {
		if !isRisingList(list, len(a.g)) {
			return false
		}
	}
	return len(a.g) <= 40
}

// checkGraphAnswers reports where a function takes bad arguments, or good ones
// not, and where an answer beside a false is not the zero answer.
func checkGraphAnswers(t *testing.T, a graphArgs) {
	t.Helper()
	got, isGood := a.answers(), a.isGoodGraph()
	if got.isGood != isGood || got.hasGroups != isGood {
		t.Error("good or not:", a.g, got)
	}
	if got.hasReached != (isGood && a.k >= 0 && a.k < len(a.g)) || got.hasClosed != (isGood && isRisingList(a.have, len(a.g))) {
		t.Error("ReachedFrom or ClosedIn:", a, got)
	}
	hasKeys := isGood && areKeys(a.key, len(a.g))
	if got.hasOrder != hasKeys || got.hasAsked != (hasKeys && slices.Equal(slices.Sorted(slices.Values(a.l)), numbersBelow(len(a.g)))) {
		t.Error("OrderOf or IsOrder:", a, got)
	}
	if !got.hasGroups && len(got.groups) > 0 || !got.hasReached && len(got.reached) > 0 || !got.hasOrder && len(got.order) > 0 ||
		!got.hasAsked && got.isOrder || !got.hasClosed && len(got.closed) > 0 {
		t.Error("not the zero answer:", a, got)
	}
}

func TestPromise22Chapter5AcceptsAll(t *testing.T) {
	for _, a := range slices.Concat(someGraphArgs(), badGraphArgs()) {
		checkGraphAnswers(t, a)
	}
}
