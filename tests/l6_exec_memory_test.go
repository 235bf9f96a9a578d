package tests

import (
	"math"
	"slices"
	"testing"

	"loop.example/g00698/impl"
)

// execArgs is what the functions of chapter 6 are given.
type execArgs struct {
	table impl.Table
	at    instance
	a, b  [][]int
}

// execAnswers is what all of them answer of it: lists are points, graph, ready,
// order and blockers.
type execAnswers struct {
	lists  [5][][]int
	isDone [6]bool
	is     [2]bool
}

func (a execArgs) answers() execAnswers {
	var got execAnswers
	got.lists[0], got.lists[1], got.isDone[0] = impl.GraphOf(a.table)
	got.lists[2], got.isDone[1] = impl.ReadyIn(a.table)
	got.lists[3], got.isDone[2] = impl.OrderIn(a.table)
	got.lists[4], got.isDone[3] = impl.BlockersOf(a.table, a.at[0], a.at[1])
	got.is[0], got.isDone[4] = impl.SameOrders(a.a, a.b, a.table)
	got.is[1], got.isDone[5] = impl.DepsHold(a.table)
	return got
}

func (a execArgs) clone() execArgs {
	return execArgs{cloneTable(a.table), a.at, cloneLists(a.a), cloneLists(a.b)}
}

func (a execAnswers) same(b execAnswers) bool {
	for i := range a.lists {
		if !sameLists(a.lists[i], b.lists[i]) {
			return false
		}
	}
	return a.isDone == b.isDone && a.is == b.is
}

// someExecArgs is good tables, most of them with an instance that is committed,
// and with lists of instances.
func someExecArgs() []execArgs {
	m := mixer(37)
	var all []execArgs
	for _, n := range groups {
		for _, x := range execTables(n) {
			at := instancesOf(n)[m.next(n*impl.MaxRow)]
			if committed := plainCommitted(x); len(committed) > 0 && m.next(8) > 0 {
				at = committed[m.next(len(committed))]
			}
			all = append(all, execArgs{x, at, pairsOf(m.mixedInstances(n)), pairsOf(m.mixedInstances(n))})
		}
	}
	return all
}

// badExecArgs is arguments of which few are as said.
func badExecArgs() []execArgs {
	m := mixer(41)
	numbers := []int{math.MinInt, -1, 0, 1, 2, 3, 4, 5, 6, 7, 8, 1 << 32, math.MaxInt}
	var tables []impl.Table
	for i, bad := range badTables() {
		if i%9 == 0 {
			tables = append(tables, bad)
		}
	}
	for _, n := range groups {
		tables = append(tables, inTurns(n), inOneRing(n), m.execTable(n, 4), m.execTable(n, 8), table(n))
	}
	pairs := slices.Concat(badPairs(3), badPairs(5), pairsOf(instancesOf(5)))
	lists := func(n int) [][]int {
		list := pairsOf(m.mixedInstances(n))
		if m.next(3) == 0 {
			list = append(list, pairs[m.next(len(pairs))])
		}
		return list
	}
	var all []execArgs
	for _, x := range tables {
		for _, rep := range numbers {
			for _, no := range numbers {
				all = append(all, execArgs{x, instance{rep, no}, lists(3 + 2*m.next(2)), lists(3 + 2*m.next(2))})
			}
		}
		all = append(all, execArgs{x, instance{0, 1}, slices.Repeat(pairs, 20), nil}, execArgs{x, instance{0, 1}, nil, slices.Repeat(pairs[:1], 5000)})
	}
	return all
}

func TestPromise22Chapter6KeepsArguments(t *testing.T) {
	args := someExecArgs()
	for i, bad := range badExecArgs() {
		if i%23 == 0 {
			args = append(args, bad)
		}
	}
	for i, a := range args {
		plain, want := a.clone(), a.answers()
		n := max(a.table.N, 0) % 8
		behinds := []impl.Row{
			// Each of these would show in an answer, or make a table a bad one.
			{State: impl.RwCom, Cmd: move(1, 0, 1, 1), Attr: attr(999, slices.Repeat([]int{impl.MaxRow}, n)...)},
			{State: impl.RwCom, Cmd: move(2, 2, 3, 1), Attr: attr(1, make([]int, n)...)},
			{Ballot: -1},
		}
		behind, rest := behinds[i%3], i%4-1
		long := execArgs{tableWithHidden(a.table, rest, behind), a.at, listsWithHidden(a.a, rest), listsWithHidden(a.b, rest)}
		if got := long.answers(); !got.same(want) {
			t.Error("reads behind a length:", a, got, "not", want)
		}
		checkTableKept(t, long.table, plain.table, rest, behind)
		checkListsKept(t, "SameOrders' first list", long.a, plain.a, rest)
		checkListsKept(t, "SameOrders' second list", long.b, plain.b, rest)
		if !sameTable(a.table, plain.table) || !sameLists(a.a, plain.a) || !sameLists(a.b, plain.b) {
			t.Error("the arguments became", a, "were", plain)
		}
	}
}

func TestPromise22Chapter6IsNewMemory(t *testing.T) {
	for _, a := range someExecArgs() {
		given, want := a.clone(), a.answers()
		m := tableMemory{numbers: slices.Concat(given.a, given.b)}
		m.addTables(given.table)
		lists := [][][]int{given.a, given.b}
		for range 2 {
			got := given.answers()
			if !got.same(want) {
				t.Error("differs at another call:", a, got, "not", want)
			}
			for _, list := range got.lists {
				m.numbers = append(m.numbers, list...)
				lists = append(lists, list)
			}
		}
		m.check(t, "chapter 6")
		checkNoListsShared(t, "chapter 6", lists)
		if again := a.answers(); !again.same(want) {
			t.Error("differs at a later call:", a, again, "not", want)
		}
	}
}

// areInstances tells whether a list is pairs that are instances of a group of
// n, each once.
func areInstances(n int, pairs [][]int) bool {
	isThere := map[instance]bool{}
	for _, pair := range pairs {
		if len(pair) != 2 || !slices.Contains(instancesOf(n), instance(pair)) {
			return false
		}
		isThere[instance(pair)] = true
	}
	return len(isThere) == len(pairs)
}

// checkExecAnswers reports where a function takes bad arguments, or good ones
// not, and where an answer beside a false is not the zero answer.
func checkExecAnswers(t *testing.T, a execArgs) {
	t.Helper()
	got, isGood := a.answers(), impl.GoodTable(a.table)
	isCommitted := isGood && slices.Contains(plainCommitted(a.table), a.at)
	hasLists := isGood && areInstances(a.table.N, a.a) && areInstances(a.table.N, a.b)
	if got.isDone != [...]bool{isGood, isGood, isGood, isCommitted, hasLists, isGood} {
		t.Error("done with bad arguments, or not done with good ones:", a, got)
	}
	isZero := [...]bool{
		len(got.lists[0]) == 0 && len(got.lists[1]) == 0, len(got.lists[2]) == 0, len(got.lists[3]) == 0,
		len(got.lists[4]) == 0, !got.is[0], !got.is[1],
	}
	for i, done := range got.isDone {
		if !done && !isZero[i] {
			t.Error("not the zero answer:", a, got)
		}
	}
}

func TestPromise22Chapter6AcceptsAll(t *testing.T) {
	for _, a := range slices.Concat(someExecArgs(), badExecArgs()) {
		checkExecAnswers(t, a)
	}
}
