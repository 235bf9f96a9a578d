package tests

import (
	"math"
	"slices"
	"testing"

	"loop.example/g00698/impl"
)

func com(c impl.Cmd, seq int, deps ...int) impl.Row {
	return impl.Row{State: impl.RwCom, Cmd: c, Attr: attr(seq, deps...)}
}

func pairOf(at instance) []int {
	return []int{at[0], at[1]}
}

func pairsOf(list []instance) [][]int {
	var pairs [][]int
	for _, at := range list {
		pairs = append(pairs, pairOf(at))
	}
	return pairs
}

// execCase is a table and what is told of it.
type execCase struct {
	name   string
	table  impl.Table
	points []instance
	graph  [][]int
	// blockers are those of each point.
	blockers     [][]instance
	ready, order []instance
	holds        bool
}

func emptyCases() []execCase {
	pre, acc := preRow(read(1, 0), 1, 6, 6, 6), preRow(read(2, 0), 2, 6, 6, 6)
	acc.State = impl.RwAcc
	ballot := emptyRow(3)
	ballot.Ballot = 17
	return []execCase{
		{name: "no row", table: table(3), holds: true},
		{name: "no row of five", table: table(5), holds: true},
		{name: "no committed row", table: table(3, []impl.Row{pre, acc}, []impl.Row{ballot, pre}), holds: true},
		{name: "empty rows alone", table: fullTable(5, emptyRow(5)), holds: true},
	}
}

// readyCases is tables in which all that is committed is ready.
func readyCases() []execCase {
	r := func(seq int, deps ...int) impl.Row { return com(read(seq, 0), seq, deps...) }
	a, b, c, d := instance{0, 1}, instance{1, 1}, instance{2, 1}, instance{0, 2}
	none := make([][]instance, 4)
	return []execCase{
		{
			"on nothing", table(3, []impl.Row{r(1, 0, 0, 0)}),
			[]instance{a}, [][]int{nil}, none[:1], []instance{a}, []instance{a}, true,
		}, {
			"on itself", table(3, nil, nil, []impl.Row{r(1, 0, 0, 1)}),
			[]instance{c}, [][]int{nil}, none[:1], []instance{c}, []instance{c}, true,
		}, {
			"on itself and one ahead", table(3, []impl.Row{r(1, 1, 0, 0), r(2, 2, 0, 0)}),
			[]instance{a, d}, [][]int{nil, {0}}, none[:2], []instance{a, d}, []instance{a, d}, true,
		}, {
			"on one behind in the same list", table(3, []impl.Row{r(2, 2, 0, 0), r(1, 0, 0, 0)}),
			[]instance{a, d}, [][]int{{1}, nil}, none[:2], []instance{a, d}, []instance{d, a}, true,
		}, {
			"a chain", table(3, []impl.Row{r(1, 0, 0, 0)}, []impl.Row{r(2, 1, 0, 0)}, []impl.Row{r(3, 0, 1, 0)}),
			[]instance{a, b, c}, [][]int{nil, {0}, {1}}, none[:3], []instance{a, b, c}, []instance{a, b, c}, false,
		}, {
			"a chain with all its ways", table(3, []impl.Row{r(1, 0, 0, 0)}, []impl.Row{r(2, 1, 0, 0)}, []impl.Row{r(3, 1, 1, 0)}),
			[]instance{a, b, c}, [][]int{nil, {0}, {0, 1}}, none[:3], []instance{a, b, c}, []instance{a, b, c}, true,
		}, {
			"a higher Seq first, as another hangs on it", table(3, []impl.Row{r(1, 0, 1, 0)}, []impl.Row{r(9, 0, 0, 0)}),
			[]instance{a, b}, [][]int{{1}, nil}, none[:2], []instance{a, b}, []instance{b, a}, true,
		}, {
			"a higher Seq first, as it is the least", table(3, []impl.Row{r(9, 0, 0, 0)}, []impl.Row{r(1, 0, 0, 0)}),
			[]instance{a, b}, [][]int{nil, nil}, none[:2], []instance{a, b}, []instance{a, b}, false,
		}, {
			"a ring of two by Seq", table(3, []impl.Row{r(9, 0, 1, 0)}, []impl.Row{r(1, 1, 0, 0)}),
			[]instance{a, b}, [][]int{{1}, {0}}, none[:2], []instance{a, b}, []instance{b, a}, true,
		}, {
			"a ring of three by Seq", table(3, []impl.Row{r(2, 0, 1, 0)}, []impl.Row{r(3, 0, 0, 1)}, []impl.Row{r(1, 1, 0, 0)}),
			[]instance{a, b, c}, [][]int{{1}, {2}, {0}}, none[:3], []instance{a, b, c}, []instance{c, a, b}, true,
		}, {
			"a ring of Seqs that are alike, by rep and no", table(3, []impl.Row{r(4, 0, 1, 0), r(4, 0, 1, 0)}, []impl.Row{r(4, 2, 0, 0)}),
			[]instance{a, d, b}, [][]int{{2}, {2}, {0, 1}}, none[:3], []instance{a, d, b}, []instance{a, d, b}, false,
		}, {
			"a ring of the greatest Seqs", table(3, []impl.Row{r(999, 0, 0, 1)}, nil, []impl.Row{r(998, 1, 0, 0)}),
			[]instance{a, c}, [][]int{{1}, {0}}, none[:2], []instance{a, c}, []instance{c, a}, true,
		}, {
			"a ring of Seqs one apart", table(5, []impl.Row{com(read(1, 0), 3, 0, 0, 0, 0, 1)}, nil, nil, nil, []impl.Row{com(read(2, 0), 2, 1, 0, 0, 0, 0)}),
			[]instance{a, {4, 1}}, [][]int{{1}, {0}}, none[:2], []instance{a, {4, 1}}, []instance{{4, 1}, a}, true,
		}, {
			"a ring ahead of what hangs on it", table(3, []impl.Row{r(1, 0, 1, 0)}, []impl.Row{r(5, 0, 0, 1)}, []impl.Row{r(4, 0, 1, 0)}),
			[]instance{a, b, c}, [][]int{{1}, {2}, {1}}, none[:3], []instance{a, b, c}, []instance{c, b, a}, false,
		},
	}
}

// blockedCases is tables in which something is not ready.
func blockedCases() []execCase {
	r := func(seq int, deps ...int) impl.Row { return com(read(seq, 0), seq, deps...) }
	pre, acc := preRow(read(7, 0), 9, 6, 6, 6), preRow(read(8, 0), 9, 6, 6, 6)
	acc.State = impl.RwAcc
	a, b, c, d := instance{0, 1}, instance{1, 1}, instance{2, 1}, instance{0, 2}
	return []execCase{
		{
			"on a row of RwPre, whose Attr tells nothing", table(3, []impl.Row{r(1, 0, 1, 0)}, []impl.Row{pre}),
			[]instance{a}, [][]int{nil}, [][]instance{{b}}, nil, nil, true,
		}, {
			"on a row of RwAcc", table(3, []impl.Row{r(1, 0, 0, 1)}, nil, []impl.Row{acc}),
			[]instance{a}, [][]int{nil}, [][]instance{{c}}, nil, nil, true,
		}, {
			"on an empty row ahead of the one that is meant", table(3, []impl.Row{emptyRow(3), r(1, 0, 0, 0)}, []impl.Row{r(2, 2, 0, 0)}),
			[]instance{d, b}, [][]int{nil, {0}}, [][]instance{nil, {a}}, []instance{d}, []instance{d}, true,
		}, {
			"on one behind the end of a list", table(3, []impl.Row{r(1, 0, 1, 0)}, []impl.Row{r(2, 0, 2, 0)}),
			[]instance{a, b}, [][]int{{1}, nil}, [][]instance{{{1, 2}}, {{1, 2}}}, nil, nil, true,
		}, {
			"on one behind the end of the own list", table(3, []impl.Row{r(1, 2, 0, 0)}),
			[]instance{a}, [][]int{nil}, [][]instance{{d}}, nil, nil, true,
		}, {
			"on itself, and on one that is not there", table(3, []impl.Row{r(1, 1, 0, 0)}, []impl.Row{r(2, 1, 1, 1)}),
			[]instance{a, b}, [][]int{nil, {0}}, [][]instance{nil, {c}}, []instance{a}, []instance{a}, true,
		}, {
			"by way of two others", table(3, []impl.Row{r(1, 0, 1, 0), r(4, 0, 0, 0)}, []impl.Row{r(2, 0, 0, 1)}, []impl.Row{r(3, 0, 2, 0)}),
			[]instance{a, d, b, c}, [][]int{{2}, nil, {3}, {2}}, [][]instance{{{1, 2}}, nil, {{1, 2}}, {{1, 2}}},
			[]instance{d}, []instance{d}, false,
		}, {
			"by several, in steps of one and of two",
			table(3, []impl.Row{r(1, 0, 1, 2)}, []impl.Row{r(2, 3, 0, 0)}, []impl.Row{pre, pre, r(3, 0, 0, 0)}),
			[]instance{a, b, {2, 3}}, [][]int{{1}, {0}, nil},
			[][]instance{{d, {0, 3}, c, {2, 2}}, {d, {0, 3}, c, {2, 2}}, nil},
			[]instance{{2, 3}}, []instance{{2, 3}}, false,
		}, {
			"a ring of which one is blocked", table(3, []impl.Row{r(1, 0, 1, 0)}, []impl.Row{r(2, 1, 0, 6)}),
			[]instance{a, b}, [][]int{{1}, {0}},
			slices.Repeat([][]instance{{c, {2, 2}, {2, 3}, {2, 4}, {2, 5}, {2, 6}}}, 2), nil, nil, true,
		}, {
			// 1,1 is told ahead of 0,1, which hangs on it, with 0,2 blocked between.
			"an order of what is ready alone", table(3, []impl.Row{r(1, 0, 1, 0), r(2, 0, 2, 0)}, []impl.Row{r(9, 0, 0, 0), pre}, []impl.Row{r(3, 0, 0, 0)}),
			[]instance{a, d, b, c}, [][]int{{2}, {2}, nil, nil}, [][]instance{nil, {{1, 2}}, nil, nil},
			[]instance{a, b, c}, []instance{b, a, c}, false,
		}, {
			"a ring by Seq of what is ready alone", table(3, []impl.Row{r(1, 0, 3, 0), r(8, 0, 1, 0)}, []impl.Row{r(4, 2, 0, 0)}, []impl.Row{r(6, 0, 0, 1), r(5, 0, 0, 1)}),
			[]instance{a, d, b, c, {2, 2}}, [][]int{{2}, {2}, {0, 1}, nil, {3}},
			[][]instance{{{1, 2}, {1, 3}}, {{1, 2}, {1, 3}}, {{1, 2}, {1, 3}}, nil, nil},
			[]instance{c, {2, 2}}, []instance{c, {2, 2}}, false,
		},
	}
}

// inTurns is a table of MaxRow committed rows of each replica, the no-th ones of
// all replicas one behind the other, each of which hangs on all ahead of it.
func inTurns(n int) impl.Table {
	x := table(n)
	for no := range impl.MaxRow {
		for rep := range n {
			deps := append(slices.Repeat([]int{no + 1}, rep), slices.Repeat([]int{no}, n-rep)...)
			x.Rows[rep] = append(x.Rows[rep], com(read(1, 0), n*no+rep, deps...))
		}
	}
	return x
}

// inTurnsBack is a full table in which each row hangs on all of the replicas
// that are greater.
func inTurnsBack(n int) impl.Table {
	x := fullTable(n, com(read(1, 0), 5, make([]int, n)...))
	for rep, rows := range x.Rows {
		for i := range rows {
			for other := rep + 1; other < n; other++ {
				rows[i].Attr.Deps[other] = impl.MaxRow
			}
		}
	}
	return x
}

// inOneRing is a full table in which each row hangs on all. The Seqs fall.
func inOneRing(n int) impl.Table {
	x := fullTable(n, com(read(1, 0), 0, slices.Repeat([]int{impl.MaxRow}, n)...))
	seq := 999
	for _, rows := range x.Rows {
		for i := range rows {
			rows[i].Attr.Seq = seq
			seq--
		}
	}
	return x
}

// fullCases is tables of as many committed rows as a table holds, which is
// less than MaxPoints.
func fullCases() []execCase {
	var cases []execCase
	for _, n := range groups {
		all := instancesOf(n)
		none, alone := make([][]instance, len(all)), make([][]int, len(all))
		cases = append(cases, execCase{
			"full, on nothing", fullTable(n, com(read(1, 0), 5, make([]int, n)...)), all, alone, none, all, all, false,
		})
		var turns, back []instance
		for no := range impl.MaxRow {
			for rep := range n {
				turns = append(turns, instance{rep, no + 1})
			}
		}
		turned, turnedBack, onAll := make([][]int, len(all)), make([][]int, len(all)), make([][]int, len(all))
		for point, at := range all {
			place := slices.Index(turns, at)
			for other, otherAt := range all {
				if slices.Index(turns, otherAt) < place {
					turned[point] = append(turned[point], other)
				}
				if otherAt[0] > at[0] {
					turnedBack[point] = append(turnedBack[point], other)
				}
				if other != point {
					onAll[point] = append(onAll[point], other)
				}
			}
		}
		for rep := range n {
			back = append(all[rep*impl.MaxRow:(rep+1)*impl.MaxRow:(rep+1)*impl.MaxRow], back...)
		}
		falling := slices.Clone(all)
		slices.Reverse(falling)
		cases = append(cases,
			execCase{"full, in turns", inTurns(n), all, turned, none, all, turns, true},
			execCase{"full, in turns back", inTurnsBack(n), all, turnedBack, none, all, back, false},
			execCase{"full, in one ring", inOneRing(n), all, onAll, none, all, falling, true},
		)
	}
	return cases
}

func namedExec() []execCase {
	return slices.Concat(emptyCases(), readyCases(), blockedCases(), fullCases())
}

// execTable is a table of lists of no meaning, in which of rare rows one is not
// committed, and of rare numbers of Deps one is not 0.
func (m *mixer) execTable(n, rare int) impl.Table {
	cmds := someCmds([]int{1, 999}, []int{1})
	x := table(n)
	for rep := range n {
		for range m.next(impl.MaxRow + 1) {
			x.Rows[rep] = append(x.Rows[rep], com(cmds[m.next(len(cmds))], m.next(4), make([]int, n)...))
		}
	}
	for _, rows := range x.Rows {
		for i := range rows {
			for other := range n {
				// Few hang on what is behind the end of a list.
				if end := len(x.Rows[other]); m.next(rare) == 0 && end > 0 {
					rows[i].Attr.Deps[other] = min(1+m.next(end+1), end+m.next(9)/8, impl.MaxRow)
				}
			}
			if m.next(3*rare) == 0 {
				rows[i].State = states[m.next(2)]
			}
			if m.next(5*rare) == 0 {
				rows[i] = emptyRow(n)
			}
		}
	}
	return x
}

// execTables is tables of which some hang on much and some on little, those of
// namedExec, and those of chapter 4 with n replicas.
func execTables(n int) []impl.Table {
	m := mixer(n)
	var tables []impl.Table
	for i := range 400 {
		tables = append(tables, m.execTable(n, 1+i%16))
	}
	for _, c := range namedExec() {
		if c.table.N == n {
			tables = append(tables, c.table)
		}
	}
	return append(tables, someTables(n)...)
}

// smallTables looks at the tables of three replicas with one row of each at
// most, with all Deps of the given numbers. From 2 on these are behind the end.
func smallTables(numbers []int, look func(impl.Table)) {
	cmds := []impl.Cmd{read(1, 0), read(2, 1), move(3, 0, 1, 4), {}, move(5, 1, 0, 6)}
	rows := []impl.Row{{}, emptyRow(3), preRow(read(9, 0), 9, 1, 1, 1)}
	eachDeps(3, numbers, func(deps []int) {
		rows = append(rows, com(cmds[len(rows)%len(cmds)], len(rows)%3, slices.Clone(deps)...))
	})
	list := func(rep, i int) []impl.Row {
		if i == 0 {
			return nil
		}
		r := cloneRow(rows[i])
		r.Attr.Seq += min(rep*r.Attr.Seq, 1)
		return []impl.Row{r}
	}
	for i := range rows {
		for j := range rows {
			for k := range rows {
				look(table(3, list(0, i), list(1, j), list(2, k)))
			}
		}
	}
}

func eachExecTable(look func(impl.Table)) {
	for _, n := range groups {
		for _, x := range execTables(n) {
			look(x)
		}
	}
	smallTables([]int{0, 1, 2}, look)
}

func plainCommitted(x impl.Table) []instance {
	var all []instance
	for _, at := range instancesOf(x.N) {
		if plainRow(x, at).State == impl.RwCom {
			all = append(all, at)
		}
	}
	return all
}

func plainHangs(x impl.Table, at, on instance) bool {
	return on[1] <= plainRow(x, at).Attr.Deps[on[0]]
}

// plainGraph is the graph of some instances, rising.
func plainGraph(x impl.Table, points []instance) [][]int {
	graph := make([][]int, len(points))
	for i, at := range points {
		for j, other := range points {
			if i != j && plainHangs(x, at, other) {
				graph[i] = append(graph[i], j)
			}
		}
	}
	return graph
}

// plainBlockers goes on from all that is committed to all on which it hangs,
// until there is nothing new.
func plainBlockers(x impl.Table, from instance) []instance {
	all, committed := instancesOf(x.N), plainCommitted(x)
	isReached := map[instance]bool{from: true}
	for count := 0; count < len(isReached); {
		count = len(isReached)
		for _, at := range committed {
			for _, other := range all {
				if isReached[at] && plainHangs(x, at, other) {
					isReached[other] = true
				}
			}
		}
	}
	return slices.DeleteFunc(all, func(at instance) bool {
		return !isReached[at] || plainRow(x, at).State == impl.RwCom
	})
}

func plainReady(x impl.Table) []instance {
	return slices.DeleteFunc(plainCommitted(x), func(at instance) bool { return len(plainBlockers(x, at)) > 0 })
}

func plainHolds(x impl.Table) bool {
	committed := plainCommitted(x)
	for i, at := range committed {
		for _, other := range committed[i+1:] {
			interfere := plainInterfere(plainRow(x, at).Cmd, plainRow(x, other).Cmd)
			if interfere && !plainHangs(x, at, other) && !plainHangs(x, other, at) {
				return false
			}
		}
	}
	return true
}

func checkGraphOf(t *testing.T, x impl.Table, points []instance, graph [][]int) {
	t.Helper()
	gotPoints, got, ok := impl.GraphOf(x)
	if !ok || !sameLists(gotPoints, pairsOf(points)) || !sameLists(got, graph) || !impl.GoodGraph(got) {
		t.Error("GraphOf", x, gotPoints, got, ok, "not", points, graph)
	}
}

func checkReadyIn(t *testing.T, x impl.Table, want []instance) {
	t.Helper()
	if got, ok := impl.ReadyIn(x); !ok || !sameLists(got, pairsOf(want)) {
		t.Error("ReadyIn", x, got, ok, "not", want)
	}
}

func checkBlockersOf(t *testing.T, x impl.Table, at instance, want []instance) {
	t.Helper()
	if got, ok := impl.BlockersOf(x, at[0], at[1]); !ok || !sameLists(got, pairsOf(want)) {
		t.Error("BlockersOf", x, at, got, ok, "not", want)
	}
}

func checkDepsHold(t *testing.T, x impl.Table, want bool) {
	t.Helper()
	if got, ok := impl.DepsHold(x); !ok || got != want {
		t.Error("DepsHold", x, got, ok, "not", want)
	}
}

func TestExecWrittenOut(t *testing.T) {
	for _, c := range namedExec() {
		t.Run(c.name, func(t *testing.T) {
			checkGraphOf(t, c.table, c.points, c.graph)
			checkReadyIn(t, c.table, c.ready)
			for i, at := range c.points {
				checkBlockersOf(t, c.table, at, c.blockers[i])
			}
			checkOrderIn(t, c.table, c.order)
			checkDepsHold(t, c.table, c.holds)
		})
	}
}

// TestTableFitsGraph is why GraphOf never tells false of a good table.
func TestTableFitsGraph(t *testing.T) {
	if impl.MaxN*impl.MaxRow > impl.MaxPoints {
		t.Error("a table can have more instances than a graph has points:", impl.MaxN*impl.MaxRow)
	}
}

func TestGraphOf(t *testing.T) {
	eachExecTable(func(x impl.Table) {
		points := plainCommitted(x)
		checkGraphOf(t, x, points, plainGraph(x, points))
	})
}

func TestReadyIn(t *testing.T) {
	eachExecTable(func(x impl.Table) {
		checkReadyIn(t, x, plainReady(x))
	})
}

func TestBlockersOf(t *testing.T) {
	eachExecTable(func(x impl.Table) {
		for _, at := range plainCommitted(x) {
			checkBlockersOf(t, x, at, plainBlockers(x, at))
		}
	})
}

func TestBlockersOfInvalid(t *testing.T) {
	check := func(x impl.Table, at instance) {
		t.Helper()
		if got, ok := impl.BlockersOf(x, at[0], at[1]); ok || len(got) != 0 {
			t.Error("BlockersOf", x, at, got, ok)
		}
	}
	for _, n := range groups {
		for _, x := range execTables(n) {
			committed := plainCommitted(x)
			for _, at := range instancesOf(n) {
				if !slices.Contains(committed, at) {
					check(x, at)
				}
			}
			for _, at := range badInstances(n) {
				check(x, at)
			}
		}
	}
	for _, x := range badTables() {
		for _, rep := range []int{-1, 0, 1, 2, 4} {
			for no := range impl.MaxRow + 2 {
				check(x, instance{rep, no})
			}
		}
	}
}

func TestDepsHoldWrittenOut(t *testing.T) {
	first, second := move(1, 0, 1, 5), read(2, 1)
	apart, pre := read(3, 2), preRow(second, 2, 0, 0, 0)
	acc := preRow(second, 2, 0, 0, 0)
	acc.State = impl.RwAcc
	for _, c := range []struct {
		name  string
		table impl.Table
		want  bool
	}{
		{"the second on the first", table(3, []impl.Row{com(first, 1, 0, 0, 0)}, []impl.Row{com(second, 1, 1, 0, 0)}), true},
		{"the first on the second", table(3, []impl.Row{com(first, 1, 0, 1, 0)}, []impl.Row{com(second, 1, 0, 0, 0)}), true},
		{"both", table(3, []impl.Row{com(first, 1, 0, 1, 0)}, []impl.Row{com(second, 1, 1, 0, 0)}), true},
		{"none", table(3, []impl.Row{com(first, 1, 0, 0, 0)}, []impl.Row{com(second, 2, 0, 0, 0)}), false},
		{"each on itself", table(3, []impl.Row{com(first, 1, 1, 0, 0)}, []impl.Row{com(second, 2, 0, 1, 0)}), false},
		{"none, but no common account", table(3, []impl.Row{com(first, 1, 0, 0, 0)}, []impl.Row{com(apart, 2, 0, 0, 0)}), true},
		{"none, but one does nothing", table(3, []impl.Row{com(first, 1, 0, 0, 0)}, []impl.Row{com(impl.Cmd{}, 2, 0, 0, 0)}), true},
		{"none, but one is pre-accepted", table(3, []impl.Row{com(first, 1, 0, 0, 0)}, []impl.Row{pre}), true},
		{"none, but one is accepted", table(3, []impl.Row{acc}, []impl.Row{com(first, 1, 0, 0, 0)}), true},
		{"in one list", table(3, []impl.Row{com(first, 1, 0, 0, 0), com(second, 2, 1, 0, 0)}), true},
		{"none in one list", table(3, nil, []impl.Row{com(first, 1, 6, 0, 6), com(second, 2, 6, 0, 6)}), false},
		{"on the one ahead alone", table(3, []impl.Row{com(second, 1, 0, 0, 0), com(second, 2, 1, 0, 0)}, []impl.Row{com(first, 3, 1, 0, 0)}), false},
		{"on a third one alone", table(3, []impl.Row{com(first, 1, 0, 0, 0)}, []impl.Row{com(apart, 2, 1, 0, 0)}, []impl.Row{com(second, 3, 0, 1, 0)}), false},
		{"the same command twice", table(3, []impl.Row{com(second, 1, 0, 0, 0)}, []impl.Row{com(second, 1, 0, 0, 0)}), false},
		{"one alone", table(3, nil, nil, []impl.Row{com(first, 1, 0, 0, 0)}), true},
	} {
		if got, ok := impl.DepsHold(c.table); !ok || got != c.want {
			t.Error("DepsHold:", c.name, got, ok)
		}
	}
}

func TestDepsHold(t *testing.T) {
	count := 0
	eachExecTable(func(x impl.Table) {
		want := plainHolds(x)
		checkDepsHold(t, x, want)
		if want && len(plainCommitted(x)) > 1 {
			count++
		}
	})
	if count < 1000 {
		t.Error("few tables hold:", count)
	}
}

func TestExecOfBadTables(t *testing.T) {
	for _, x := range badTables() {
		if points, graph, ok := impl.GraphOf(x); ok || len(points) != 0 || len(graph) != 0 {
			t.Error("GraphOf", x, points, graph, ok)
		}
		if ready, ok := impl.ReadyIn(x); ok || len(ready) != 0 {
			t.Error("ReadyIn", x, ready, ok)
		}
		if order, ok := impl.OrderIn(x); ok || len(order) != 0 {
			t.Error("OrderIn", x, order, ok)
		}
		if holds, ok := impl.DepsHold(x); ok || holds {
			t.Error("DepsHold", x, holds, ok)
		}
	}
}

// badPairs is pairs that are no instances of a group of n, and lists that are
// no pairs.
func badPairs(n int) [][]int {
	bad := [][]int{nil, {}, {0}, {1}, {1, 1, 1}, {0, 1, 2}, {0, 1, 0}, slices.Repeat([]int{1}, 1000), {math.MaxInt}}
	for _, at := range badInstances(n) {
		bad = append(bad, pairOf(at))
	}
	return bad
}
