package tests

import (
	"math"
	"slices"
	"testing"

	"loop.example/g00698/impl"
)

// rowWithHidden has the number rest behind the length of Deps.
func rowWithHidden(r impl.Row, rest int) impl.Row {
	r.Attr.Deps = withHidden(r.Attr.Deps, rest)
	return r
}

// tableWithHidden has rest behind the length of all Deps, the row behind that
// of each list of rows, and a list of that row behind that of the list of them.
func tableWithHidden(t impl.Table, rest int, behind impl.Row) impl.Table {
	var lists [][]impl.Row
	for _, rows := range t.Rows {
		long := withHidden(rows, behind)
		for i := range rows {
			long[i] = rowWithHidden(rows[i], rest)
		}
		lists = append(lists, long)
	}
	return impl.Table{N: t.N, Rows: withHidden(lists, []impl.Row{behind})}
}

// checkTableKept reports where got, made by tableWithHidden(want, rest,
// behind), was written to.
func checkTableKept(t *testing.T, got, want impl.Table, rest int, behind impl.Row) {
	t.Helper()
	if !sameTable(got, want) {
		t.Error("the argument became", got, "was", want)
		return
	}
	for _, rows := range got.Rows[len(got.Rows) : len(got.Rows)+hidden] {
		if len(rows) != 1 || !sameRow(rows[0], behind) {
			t.Error("wrote a list behind the length of", want)
		}
	}
	for rep, rows := range got.Rows {
		for _, r := range rows[len(rows) : len(rows)+hidden] {
			if !sameRow(r, behind) {
				t.Error("wrote a row behind the length of", want)
			}
		}
		for i, r := range rows {
			checkKept(t, "chapter 4", r.Attr.Deps, want.Rows[rep][i].Attr.Deps, rest)
		}
	}
}

// tableAnswers is what all functions answer of one table, and what else they
// are given.
type tableAnswers struct {
	isGood    bool
	row       impl.Row
	set       impl.Table
	attr      impl.Attr
	committed [][]int
	ballot    int
	isDone    [5]bool
}

func answersOf(x impl.Table, at instance, c impl.Cmd, r impl.Row, me int) tableAnswers {
	var a tableAnswers
	a.isGood = impl.GoodTable(x)
	a.row, a.isDone[0] = impl.RowAt(x, at[0], at[1])
	a.set, a.isDone[1] = impl.SetRow(x, at[0], at[1], r)
	a.attr, a.isDone[2] = impl.AttrFor(x, c, at[0], at[1])
	a.committed, a.isDone[3] = impl.Committed(x)
	a.ballot, a.isDone[4] = impl.NextBallot(x, at[0], at[1], me)
	return a
}

func sameAnswers(a, b tableAnswers) bool {
	return a.isGood == b.isGood && a.isDone == b.isDone && a.ballot == b.ballot && sameRow(a.row, b.row) &&
		sameTable(a.set, b.set) && plainSame(a.attr, b.attr) && sameLists(a.committed, b.committed)
}

func TestPromise22Chapter4KeepsArguments(t *testing.T) {
	for _, n := range groups {
		full := slices.Repeat([]int{impl.MaxRow}, n)
		behinds := []impl.Row{
			// Each of these would show in an answer, or make a table a bad one.
			{Ballot: 88, State: impl.RwCom, Cmd: move(1, 0, 1, 1), Attr: attr(999, full...)},
			{Ballot: 99, State: impl.RwCom, Cmd: move(2, 2, 3, 1), Attr: attr(1, make([]int, n)...)},
			{Ballot: -1},
		}
		tables := someTables(n)
		for i, bad := range badTables() {
			if i%5 == 0 {
				tables = append(tables, bad)
			}
		}
		rows := append(someRows(n), badRows(n)[:20]...)
		for i, x := range tables {
			for j, at := range instancesOf(n) {
				r := rows[(31*i+7*j)%len(rows)]
				checkTableArgs(t, x, at, r, j-1, behinds[(i+j)%len(behinds)])
			}
		}
	}
}

// checkTableArgs reports where a function writes to what it is given, or where
// what stands behind a length shows in an answer.
func checkTableArgs(t *testing.T, x impl.Table, at instance, r impl.Row, rest int, behind impl.Row) {
	t.Helper()
	plain := cloneTable(x)
	longTable, longRow := tableWithHidden(x, rest, behind), rowWithHidden(r, rest+1)
	c := move(5, 0, 2, 9)
	got, want := answersOf(longTable, at, c, longRow, 1), answersOf(x, at, c, r, 1)
	if !sameAnswers(got, want) {
		t.Error("reads behind a length:", x, at, r, got, "not", want)
	}
	checkTableKept(t, longTable, plain, rest, behind)
	checkKept(t, "SetRow", longRow.Attr.Deps, r.Attr.Deps, rest+1)
	if !sameTable(x, plain) {
		t.Error("the argument became", x, "was", plain)
	}
}

// tableMemory gathers the lists of what may share none of them.
type tableMemory struct {
	numbers [][]int
	rows    [][]impl.Row
	tables  [][][]impl.Row
}

func (m *tableMemory) addAttrs(attrs ...impl.Attr) {
	for _, a := range attrs {
		m.numbers = append(m.numbers, a.Deps)
	}
}

func (m *tableMemory) addTables(tables ...impl.Table) {
	for _, x := range tables {
		m.tables = append(m.tables, x.Rows)
		for _, rows := range x.Rows {
			m.rows = append(m.rows, rows)
			for _, r := range rows {
				m.addAttrs(r.Attr)
			}
		}
	}
}

// check writes to all the memory of each list, up to its capacity, and reports
// where that shows in another one.
func (m *tableMemory) check(t *testing.T, what string) {
	t.Helper()
	checkNoneShared(t, what, m.numbers)
	checkApart(t, what+", rows", m.rows, func(r *impl.Row) *int { return &r.Ballot })
	for i, lists := range m.tables {
		whole := lists[:cap(lists)]
		for j := range whole {
			whole[j] = make([]impl.Row, i+1)
		}
	}
	for i, lists := range m.tables {
		for _, rows := range lists[:cap(lists)] {
			if len(rows) != i+1 {
				t.Errorf("%s: tables %d and %d share memory", what, i, len(rows)-1)
			}
		}
	}
}

func TestPromise22Chapter4IsNewMemory(t *testing.T) {
	for _, n := range groups {
		rows := someRows(n)
		for i, x := range someTables(n) {
			for j, at := range instancesOf(n) {
				r := rows[(31*i+7*j)%len(rows)]
				checkNewMemory(t, cloneTable(x), at, cloneRow(r))
			}
		}
	}
}

// checkNewMemory writes to all that it is given.
func checkNewMemory(t *testing.T, x impl.Table, at instance, r impl.Row) {
	t.Helper()
	c := move(5, 0, 2, 9)
	want := answersOf(cloneTable(x), at, c, cloneRow(r), 1)
	wantTable, wantRow := cloneTable(x), cloneRow(r)
	var m tableMemory
	m.addTables(x)
	m.addAttrs(r.Attr)
	for range 2 {
		got := answersOf(x, at, c, r, 1)
		m.addTables(got.set)
		m.addAttrs(got.row.Attr, got.attr)
		m.numbers = append(m.numbers, got.committed...)
	}
	m.check(t, "chapter 4")
	if again := answersOf(wantTable, at, c, wantRow, 1); !sameAnswers(again, want) {
		t.Error("differs at a later call:", wantTable, at, wantRow, again, "not", want)
	}
}

func TestPromise22NewTableIsNewMemory(t *testing.T) {
	for _, n := range groups {
		first, _ := impl.NewTable(n)
		second, _ := impl.NewTable(n)
		var m tableMemory
		m.addTables(first, second)
		m.check(t, "NewTable")
		if x, ok := impl.NewTable(n); !ok || !sameTable(x, table(n)) {
			t.Error("NewTable differs at a later call:", n, x, ok)
		}
	}
}

func TestPromise22CommittedIsNewMemory(t *testing.T) {
	for _, n := range groups {
		x := fullTable(n, impl.Row{State: impl.RwCom, Attr: attr(1, make([]int, n)...)})
		first, _ := impl.Committed(x)
		second, _ := impl.Committed(x)
		for i := range first {
			first[i] = nil
		}
		third, _ := impl.Committed(x)
		if len(second) != n*impl.MaxRow || !sameLists(second, third) {
			t.Error("Committed differs at a later call:", second, third)
		}
	}
}

func TestPromise22Chapter4AcceptsAll(t *testing.T) {
	numbers := []int{math.MinInt, -1, 0, 1, 2, 3, 4, 5, 6, 7, 8, 1 << 32, math.MaxInt}
	cmds := append(badCmds()[:12], impl.Cmd{}, read(1, 3), move(999, 0, 1, 1000))
	var tables []impl.Table
	for i, bad := range badTables() {
		if i%7 == 0 {
			tables = append(tables, bad)
		}
	}
	for _, n := range groups {
		tables = append(tables, mixedTables(n, 5)...)
	}
	rows := slices.Concat(badRows(3)[:30], someRows(3), someRows(5), []impl.Row{{}})
	for i, x := range tables {
		for j, rep := range numbers {
			for k, no := range numbers {
				pick := 169*i + 13*j + k
				checkTableAnswers(t, x, instance{rep, no}, cmds[pick%len(cmds)], rows[pick%len(rows)], numbers[pick%len(numbers)])
			}
		}
	}
}

// checkTableAnswers reports where the functions do not agree on what is good,
// and where an answer beside a false is not the zero answer.
func checkTableAnswers(t *testing.T, x impl.Table, at instance, c impl.Cmd, r impl.Row, me int) {
	t.Helper()
	a := answersOf(x, at, c, r, me)
	isIn := a.isGood && slices.Contains(instancesOf(x.N), at)
	if a.isDone[0] != isIn || a.isDone[3] != a.isGood {
		t.Error("good in some functions only:", x, at, a)
	}
	isGoodRow := isIn && impl.GoodTable(table(x.N, []impl.Row{r}))
	if a.isDone[1] != isGoodRow || a.isDone[2] && !(isIn && impl.GoodCmd(c)) || a.isDone[4] && !(isIn && me >= 0 && me < x.N) {
		t.Error("done with bad arguments, or not done with good ones:", x, at, c, r, me, a)
	}
	isZero := [...]bool{isZeroRow(a.row), isZeroTable(a.set), isZeroAttr(a.attr), len(a.committed) == 0, a.ballot == 0}
	for i, done := range a.isDone {
		if !done && !isZero[i] {
			t.Error("not the zero answer:", x, at, c, r, me, a)
		}
	}
}
