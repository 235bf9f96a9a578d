package tests

import (
	"math"
	"slices"
	"testing"

	"loop.example/g00698/impl"
)

// badBallots and badStates are numbers beyond the limits of a row.
var badBallots = []int{math.MinInt, -1, 10000, 10001, 1 << 32, 5 + 1<<32, math.MaxInt}

var badStates = []int{math.MinInt, -1, 4, 5, 1 << 32, 1 + 1<<32, math.MaxInt}

var states = []int{impl.RwPre, impl.RwAcc, impl.RwCom}

// instance is a replica and a no.
type instance [2]int

// instancesOf is all instances of a group of n, rising.
func instancesOf(n int) []instance {
	var all []instance
	for rep := range n {
		for no := range impl.MaxRow {
			all = append(all, instance{rep, no + 1})
		}
	}
	return all
}

// badInstances is pairs that are no instances of a group of n.
func badInstances(n int) []instance {
	var bad []instance
	for _, no := range []int{math.MinInt, -1, 0, 7, 8, 1 + 1<<32, math.MaxInt} {
		bad = append(bad, instance{0, no}, instance{n - 1, no})
	}
	for _, rep := range []int{math.MinInt, -1, n, n + 1, 1 << 32, math.MaxInt} {
		bad = append(bad, instance{rep, 1}, instance{rep, impl.MaxRow}, instance{rep, 0})
	}
	return bad
}

func emptyRow(n int) impl.Row {
	return impl.Row{Attr: attr(0, make([]int, n)...)}
}

func preRow(c impl.Cmd, seq int, deps ...int) impl.Row {
	return impl.Row{State: impl.RwPre, Cmd: c, Attr: attr(seq, deps...)}
}

// someRows is good rows of a group of n.
func someRows(n int) []impl.Row {
	none := make([]int, n)
	full := slices.Repeat([]int{impl.MaxRow}, n)
	rows := []impl.Row{emptyRow(n)}
	for _, ballot := range []int{1, 8, 9998, 9999} {
		rows = append(rows, impl.Row{Ballot: ballot, Attr: attr(0, none...)})
	}
	for _, state := range states {
		for _, ballots := range [][2]int{{0, 0}, {1, 0}, {1, 1}, {8, 3}, {9999, 0}, {9999, 9998}, {9999, 9999}} {
			r := impl.Row{Ballot: ballots[0], Vote: ballots[1], State: state}
			for _, c := range []impl.Cmd{{}, move(1, 0, 3, 1), move(999, 3, 0, 1000), read(7, 2)} {
				for _, a := range []impl.Attr{attr(0, none...), attr(1, none...), attr(999, full...)} {
					r.Cmd, r.Attr = c, cloneAttr(a)
					rows = append(rows, r)
				}
			}
		}
	}
	return rows
}

// badRows is rows of which each is bad for a group of n, in few fields.
func badRows(n int) []impl.Row {
	var bad []impl.Row
	add := func(r impl.Row, change func(*impl.Row)) {
		r.Attr = cloneAttr(r.Attr)
		change(&r)
		bad = append(bad, r)
	}
	goods := []impl.Row{emptyRow(n)}
	for _, state := range states {
		goods = append(goods, impl.Row{Ballot: 17, Vote: 9, State: state, Cmd: read(5, 2), Attr: attr(3, slices.Repeat([]int{1}, n)...)})
	}
	for _, good := range goods {
		for _, number := range badBallots {
			add(good, func(r *impl.Row) { r.Ballot = number })
			add(good, func(r *impl.Row) { r.Vote = number })
			add(good, func(r *impl.Row) { r.Ballot, r.Vote = number, number })
		}
		for _, state := range badStates {
			add(good, func(r *impl.Row) { r.State = state })
		}
		for _, c := range badCmds() {
			add(good, func(r *impl.Row) { r.Cmd = c })
		}
		for _, a := range badAttrs(n) {
			add(good, func(r *impl.Row) { r.Attr = a })
		}
	}
	for _, good := range goods[1:] {
		add(good, func(r *impl.Row) { r.Vote = 18 })
		add(good, func(r *impl.Row) { r.Ballot = 8 })
		add(good, func(r *impl.Row) { r.Ballot, r.Vote = 0, 1 })
		add(good, func(r *impl.Row) { r.Ballot, r.Vote = 9999, 10000 })
		add(good, func(r *impl.Row) { r.State = impl.RwNone })
	}
	return append(bad, badNoneRows(n)...)
}

// badNoneRows is rows that are bad for RwNone alone, in one field each.
func badNoneRows(n int) []impl.Row {
	var bad []impl.Row
	for _, vote := range []int{1, 16, 17} {
		r := emptyRow(n)
		r.Ballot, r.Vote = 17, vote
		bad = append(bad, r)
	}
	for _, c := range []impl.Cmd{move(5, 0, 1, 9), read(5, 2), read(1, 0)} {
		r := emptyRow(n)
		r.Cmd = c
		bad = append(bad, r)
	}
	for _, seq := range []int{1, 999} {
		r := emptyRow(n)
		r.Attr.Seq = seq
		bad = append(bad, r)
	}
	for rep := range n {
		r := emptyRow(n)
		r.Attr.Deps[rep] = 1
		bad = append(bad, r)
	}
	return bad
}

func table(n int, lists ...[]impl.Row) impl.Table {
	for len(lists) < n {
		lists = append(lists, nil)
	}
	return impl.Table{N: n, Rows: lists}
}

// mixedTables is tables of lists of all lengths, with rows of someRows in an
// order of no meaning. The cmds and attributes are mixed, too.
func mixedTables(n, count int) []impl.Table {
	rows := someRows(n)
	cmds := someCmds([]int{1, 999}, []int{1, 1000})
	number := uint32(n)
	next := func(below int) int {
		number = number*1664525 + 1013904223
		return int(number>>8) % below
	}
	var tables []impl.Table
	for range count {
		t := table(n)
		for rep := range n {
			for range next(impl.MaxRow + 1) {
				r := cloneRow(rows[next(len(rows))])
				if r.State != impl.RwNone {
					r.Cmd, r.Attr.Seq = cmds[next(len(cmds))], next(1000)
					r.Attr.Deps[next(n)] = next(impl.MaxRow + 1)
				}
				t.Rows[rep] = append(t.Rows[rep], r)
			}
		}
		tables = append(tables, t)
	}
	return tables
}

// fullTable is a table of lists of MaxRow rows, each like r.
func fullTable(n int, r impl.Row) impl.Table {
	t := table(n)
	for rep := range n {
		for range impl.MaxRow {
			t.Rows[rep] = append(t.Rows[rep], cloneRow(r))
		}
	}
	return t
}

// someTables is good tables of a group of n: none, short, mixed and full ones.
func someTables(n int) []impl.Table {
	rows := someRows(n)
	tables := append(mixedTables(n, 40), table(n), fullTable(n, emptyRow(n)), fullTable(n, rows[len(rows)-1]))
	for rep := range n {
		t := table(n)
		t.Rows[rep] = []impl.Row{cloneRow(rows[len(rows)-1]), emptyRow(n), cloneRow(rows[20])}
		tables = append(tables, t)
	}
	return tables
}

// badTables is tables of which each is bad, most of them in one thing alone.
func badTables() []impl.Table {
	bad := []impl.Table{{}, {N: 3}, {N: 5}, {N: 3, Rows: [][]impl.Row{}}}
	for _, n := range noGroups {
		for lists := range 9 {
			bad = append(bad, impl.Table{N: n, Rows: make([][]impl.Row, lists)})
		}
	}
	for _, n := range groups {
		for lists := range 9 {
			if lists != n {
				bad = append(bad, impl.Table{N: n, Rows: make([][]impl.Row, lists)})
			}
		}
		for _, length := range []int{7, 8, 13, 1000} {
			for rep := range n {
				t := fullTable(n, emptyRow(n))
				t.Rows[rep] = slices.Repeat([]impl.Row{emptyRow(n)}, length)
				bad = append(bad, t)
			}
		}
		bad = append(bad, fullTable(n, emptyRow(8-n)), fullTable(n, impl.Row{}))
		for i, r := range badRows(n) {
			t := table(n)
			t.Rows[i%n] = slices.Repeat([]impl.Row{emptyRow(n)}, impl.MaxRow)
			t.Rows[i%n][i%impl.MaxRow] = r
			bad = append(bad, t)
		}
	}
	return bad
}

func cloneRow(r impl.Row) impl.Row {
	r.Attr = cloneAttr(r.Attr)
	return r
}

func cloneTable(t impl.Table) impl.Table {
	clone := impl.Table{N: t.N, Rows: make([][]impl.Row, len(t.Rows))}
	for rep, rows := range t.Rows {
		for _, r := range rows {
			clone.Rows[rep] = append(clone.Rows[rep], cloneRow(r))
		}
	}
	return clone
}

func sameRow(a, b impl.Row) bool {
	return a.Ballot == b.Ballot && a.Vote == b.Vote && a.State == b.State && a.Cmd == b.Cmd && plainSame(a.Attr, b.Attr)
}

func sameTable(a, b impl.Table) bool {
	return a.N == b.N && slices.EqualFunc(a.Rows, b.Rows, func(x, y []impl.Row) bool {
		return slices.EqualFunc(x, y, sameRow)
	})
}

func isZeroRow(r impl.Row) bool {
	return sameRow(r, impl.Row{})
}

func isZeroTable(t impl.Table) bool {
	return t.N == 0 && len(t.Rows) == 0
}

// plainRow is the row of an instance in a good table.
func plainRow(t impl.Table, at instance) impl.Row {
	if rows := t.Rows[at[0]]; at[1] <= len(rows) {
		return rows[at[1]-1]
	}
	return emptyRow(t.N)
}

// plainAttrFor is the attribute of a good command, with a Seq that may be 1000.
func plainAttrFor(t impl.Table, c impl.Cmd, own instance) impl.Attr {
	want := attr(1, make([]int, t.N)...)
	for _, other := range instancesOf(t.N) {
		r := plainRow(t, other)
		if other != own && r.State != impl.RwNone && plainInterfere(r.Cmd, c) {
			want.Seq = max(want.Seq, r.Attr.Seq+1)
			want.Deps[other[0]] = other[1]
		}
	}
	return want
}

func TestTableConstants(t *testing.T) {
	if impl.RwNone != 0 || impl.RwPre != 1 || impl.RwAcc != 2 || impl.RwCom != 3 {
		t.Error("states:", impl.RwNone, impl.RwPre, impl.RwAcc, impl.RwCom)
	}
	if impl.MaxBallot != 9999 {
		t.Error("MaxBallot is", impl.MaxBallot)
	}
}

func TestGoodTable(t *testing.T) {
	for _, n := range groups {
		for _, x := range someTables(n) {
			if !impl.GoodTable(x) {
				t.Error("not good:", x)
			}
		}
		for _, r := range someRows(n) {
			for _, at := range instancesOf(n) {
				x := table(n)
				x.Rows[at[0]] = slices.Repeat([]impl.Row{emptyRow(n)}, at[1])
				x.Rows[at[0]][at[1]-1] = r
				if !impl.GoodTable(x) {
					t.Error("not good:", x)
				}
			}
			if !impl.GoodTable(fullTable(n, r)) {
				t.Error("not good when full of", r)
			}
		}
	}
}

func TestGoodTableInvalid(t *testing.T) {
	for _, x := range badTables() {
		if impl.GoodTable(x) {
			t.Error("good:", x)
		}
	}
	for _, n := range groups {
		for _, r := range badRows(n) {
			for _, at := range instancesOf(n) {
				x := fullTable(n, emptyRow(n))
				x.Rows[at[0]][at[1]-1] = r
				if impl.GoodTable(x) {
					t.Error("good:", x)
				}
			}
		}
	}
}

func TestNewTable(t *testing.T) {
	for _, n := range groups {
		x, ok := impl.NewTable(n)
		if !ok || !sameTable(x, table(n)) || !impl.GoodTable(x) {
			t.Error("NewTable", n, x, ok)
		}
	}
	for _, n := range noGroups {
		if x, ok := impl.NewTable(n); ok || !isZeroTable(x) {
			t.Error("NewTable", n, x, ok)
		}
	}
}

func TestRowAt(t *testing.T) {
	for _, n := range groups {
		for _, x := range someTables(n) {
			for _, at := range instancesOf(n) {
				if r, ok := impl.RowAt(x, at[0], at[1]); !ok || !sameRow(r, plainRow(x, at)) {
					t.Error("RowAt", x, at, r, ok)
				}
			}
		}
	}
}

func TestRowAtInvalid(t *testing.T) {
	check := func(x impl.Table, at instance) {
		t.Helper()
		if r, ok := impl.RowAt(x, at[0], at[1]); ok || !isZeroRow(r) {
			t.Error("RowAt", x, at, r, ok)
		}
	}
	for _, n := range groups {
		for _, x := range someTables(n) {
			for _, at := range badInstances(n) {
				check(x, at)
			}
		}
	}
	for _, x := range badTables() {
		check(x, instance{0, 1})
		check(x, instance{2, 6})
	}
}

// withRow is a good table with r as the row of an instance.
func withRow(x impl.Table, at instance, r impl.Row) impl.Table {
	want := cloneTable(x)
	for len(want.Rows[at[0]]) < at[1] {
		want.Rows[at[0]] = append(want.Rows[at[0]], emptyRow(x.N))
	}
	want.Rows[at[0]][at[1]-1] = r
	return want
}

func TestSetRow(t *testing.T) {
	for _, n := range groups {
		rows := someRows(n)
		for i, x := range someTables(n) {
			for j, at := range instancesOf(n) {
				r := rows[(31*i+7*j)%len(rows)]
				got, ok := impl.SetRow(x, at[0], at[1], r)
				if !ok || !sameTable(got, withRow(x, at, r)) || !impl.GoodTable(got) {
					t.Error("SetRow", x, at, r, got, ok)
				}
			}
		}
		for _, r := range rows {
			for _, at := range instancesOf(n) {
				if got, ok := impl.SetRow(table(n), at[0], at[1], r); !ok || !sameTable(got, withRow(table(n), at, r)) {
					t.Error("SetRow", at, r, got, ok)
				}
			}
		}
	}
}

func TestSetRowFillsUpWithEmptyRows(t *testing.T) {
	com := impl.Row{Ballot: 9, Vote: 8, State: impl.RwCom, Cmd: read(4, 1), Attr: attr(2, 1, 0, 0)}
	pre := preRow(move(7, 0, 2, 30), 1, 0, 0, 0)
	x, ok := impl.SetRow(table(3, []impl.Row{pre}), 0, 4, com)
	if want := table(3, []impl.Row{pre, emptyRow(3), emptyRow(3), com}); !ok || !sameTable(x, want) {
		t.Error("fourth row:", x, ok)
	}
	x, ok = impl.SetRow(x, 0, 2, pre)
	if want := table(3, []impl.Row{pre, pre, emptyRow(3), com}); !ok || !sameTable(x, want) {
		t.Error("second row:", x, ok)
	}
	x, ok = impl.SetRow(x, 2, 6, emptyRow(3))
	if want := table(3, []impl.Row{pre, pre, emptyRow(3), com}, nil, slices.Repeat([]impl.Row{emptyRow(3)}, 6)); !ok || !sameTable(x, want) {
		t.Error("empty sixth row:", x, ok)
	}
	x, ok = impl.SetRow(x, 0, 4, emptyRow(3))
	if !ok || len(x.Rows[0]) != 4 || !sameRow(x.Rows[0][3], emptyRow(3)) {
		t.Error("emptied row:", x, ok)
	}
}

func TestSetRowInvalid(t *testing.T) {
	check := func(x impl.Table, at instance, r impl.Row) {
		t.Helper()
		if got, ok := impl.SetRow(x, at[0], at[1], r); ok || !isZeroTable(got) {
			t.Error("SetRow", x, at, r, got, ok)
		}
	}
	for _, n := range groups {
		good := preRow(read(5, 2), 3, slices.Repeat([]int{1}, n)...)
		for _, r := range badRows(n) {
			check(table(n), instance{0, 1}, r)
			check(fullTable(n, good), instance{n - 1, 6}, r)
		}
		for _, at := range badInstances(n) {
			check(table(n), at, good)
			check(fullTable(n, good), at, good)
		}
		check(table(8-n), instance{0, 1}, good)
		check(table(8-n), instance{0, 1}, emptyRow(n))
	}
	for _, x := range badTables() {
		for _, n := range groups {
			check(x, instance{0, 1}, emptyRow(n))
			check(x, instance{2, 6}, preRow(read(5, 2), 3, make([]int, n)...))
		}
	}
}

// checkAttrFor reports where AttrFor does not answer with want.
func checkAttrFor(t *testing.T, x impl.Table, c impl.Cmd, own instance, want impl.Attr) {
	t.Helper()
	got, ok := impl.AttrFor(x, c, own[0], own[1])
	if want.Seq == 1000 {
		if ok || !isZeroAttr(got) {
			t.Error("AttrFor with a Seq of 1000:", x, c, own, got, ok)
		}
	} else if !ok || !plainSame(got, want) || !impl.GoodAttr(x.N, got) {
		t.Error("AttrFor", x, c, own, got, ok, "not", want)
	}
}

func TestAttrForWrittenOut(t *testing.T) {
	// Accounts 0 and 2, 1, 2 and 3, 0.
	m02, r1, m23, r0 := move(7, 0, 2, 30), read(8, 1), move(9, 2, 3, 5), read(10, 0)
	acc, com := preRow(r1, 4, 0, 0, 1), preRow(m23, 9, 6, 6, 6)
	acc.State, com.State = impl.RwAcc, impl.RwCom
	x := table(3, []impl.Row{preRow(m02, 2, 0, 0, 0), emptyRow(3), acc}, []impl.Row{com}, []impl.Row{emptyRow(3), preRow(r0, 20, 1, 2, 3)})
	cases := []struct {
		c    impl.Cmd
		own  instance
		want impl.Attr
	}{
		{read(1, 0), instance{1, 2}, attr(21, 1, 0, 2)},
		{read(1, 1), instance{1, 2}, attr(5, 3, 0, 0)},
		{read(1, 2), instance{1, 2}, attr(10, 1, 1, 0)},
		{read(1, 3), instance{1, 2}, attr(10, 0, 1, 0)},
		{move(1, 1, 0, 9), instance{1, 2}, attr(21, 3, 0, 2)},
		{move(1, 3, 1, 9), instance{1, 2}, attr(10, 3, 1, 0)},
		{impl.Cmd{}, instance{1, 2}, attr(1, 0, 0, 0)},
		// The own row does not count, the other ones of its replica do.
		{read(1, 0), instance{0, 1}, attr(21, 0, 0, 2)},
		{read(1, 0), instance{2, 2}, attr(3, 1, 0, 0)},
		{read(1, 0), instance{2, 1}, attr(21, 1, 0, 2)},
		{read(1, 1), instance{0, 3}, attr(1, 0, 0, 0)},
		{read(1, 1), instance{0, 1}, attr(5, 3, 0, 0)},
		{read(1, 2), instance{1, 1}, attr(3, 1, 0, 0)},
		{move(1, 1, 0, 9), instance{0, 2}, attr(21, 3, 0, 2)},
		{m02, instance{0, 1}, attr(21, 0, 1, 2)},
		{read(1, 3), instance{2, 6}, attr(10, 0, 1, 0)},
	}
	for _, c := range cases {
		checkAttrFor(t, x, c.c, c.own, c.want)
	}
}

func TestAttrForNothing(t *testing.T) {
	for _, n := range groups {
		none := attr(1, make([]int, n)...)
		ballot := emptyRow(n)
		ballot.Ballot = 9999
		nothing := preRow(impl.Cmd{}, 999, slices.Repeat([]int{impl.MaxRow}, n)...)
		apart := preRow(move(1, 2, 3, 4), 999, slices.Repeat([]int{impl.MaxRow}, n)...)
		for _, own := range instancesOf(n) {
			for _, r := range []impl.Row{emptyRow(n), ballot, nothing, apart} {
				for _, c := range []impl.Cmd{{}, read(1, 1), read(1, 0), move(1, 0, 1, 2)} {
					checkAttrFor(t, table(n), c, own, none)
					checkAttrFor(t, fullTable(n, r), c, own, none)
				}
			}
			checkAttrFor(t, fullTable(n, apart), impl.Cmd{}, own, none)
		}
	}
}

func TestAttrForOneRow(t *testing.T) {
	for _, n := range groups {
		for _, own := range instancesOf(n) {
			for _, other := range instancesOf(n) {
				for i, seq := range []int{0, 1, 500, 997, 998, 999} {
					r := preRow(move(1, 2, 0, 4), seq, slices.Repeat([]int{i}, n)...)
					r.State = states[i%len(states)]
					x := withRow(table(n), other, r)
					want := attr(1, make([]int, n)...)
					checkAttrFor(t, x, read(1, 1), own, want)
					if other != own {
						want.Seq, want.Deps[other[0]] = seq+1, other[1]
					}
					checkAttrFor(t, x, read(1, 0), own, want)
					checkAttrFor(t, x, move(1, 1, 2, 9), own, want)
				}
			}
		}
	}
}

func TestAttrForOfFullTables(t *testing.T) {
	for _, n := range groups {
		for _, own := range instancesOf(n) {
			want := attr(999, slices.Repeat([]int{impl.MaxRow}, n)...)
			if own[1] == impl.MaxRow {
				want.Deps[own[0]] = impl.MaxRow - 1
			}
			x := fullTable(n, preRow(read(1, 3), 998, make([]int, n)...))
			checkAttrFor(t, x, read(2, 3), own, want)
			// What stands in the own row would make 1000, but does not count.
			x.Rows[own[0]][own[1]-1].Attr.Seq = 999
			checkAttrFor(t, x, read(2, 3), own, want)
			x.Rows[(own[0]+1)%n][0].Attr.Seq = 999
			want.Seq = 1000
			checkAttrFor(t, x, read(2, 3), own, want)
		}
	}
}

func TestPromise4AttrForCoversEachInterferingRow(t *testing.T) {
	cmds := someCmds([]int{1}, []int{7})
	for _, n := range groups {
		for _, x := range someTables(n) {
			for _, c := range cmds {
				for _, own := range instancesOf(n) {
					checkAttrFor(t, x, c, own, plainAttrFor(x, c, own))
					checkCovers(t, x, c, own)
				}
			}
		}
	}
}

// checkCovers reports the interfering rows on which the attribute does not
// hang, or that have no smaller Seq.
func checkCovers(t *testing.T, x impl.Table, c impl.Cmd, own instance) {
	t.Helper()
	a, ok := impl.AttrFor(x, c, own[0], own[1])
	if !ok {
		return
	}
	for _, other := range instancesOf(x.N) {
		r, _ := impl.RowAt(x, other[0], other[1])
		if is, _ := impl.Interfere(r.Cmd, c); !is || other == own {
			continue
		}
		if is, ok := impl.HangsOn(x.N, a, other[0], other[1]); !is || !ok || a.Seq <= r.Attr.Seq {
			t.Error("AttrFor", x, c, own, a, "does not cover", other)
		}
	}
}

func TestAttrForInvalid(t *testing.T) {
	check := func(x impl.Table, c impl.Cmd, own instance) {
		t.Helper()
		if got, ok := impl.AttrFor(x, c, own[0], own[1]); ok || !isZeroAttr(got) {
			t.Error("AttrFor", x, c, own, got, ok)
		}
	}
	for _, n := range groups {
		full := fullTable(n, preRow(read(1, 3), 5, make([]int, n)...))
		for _, c := range badCmds() {
			check(table(n), c, instance{0, 1})
			check(full, c, instance{n - 1, 6})
		}
		for _, own := range badInstances(n) {
			check(table(n), read(1, 3), own)
			check(full, read(1, 3), own)
			check(full, impl.Cmd{}, own)
		}
	}
	for _, x := range badTables() {
		check(x, read(1, 3), instance{0, 1})
		check(x, impl.Cmd{}, instance{2, 6})
	}
}

func checkCommitted(t *testing.T, x impl.Table, want [][]int) {
	t.Helper()
	if got, ok := impl.Committed(x); !ok || !sameLists(got, want) {
		t.Error("Committed", x, got, ok, "not", want)
	}
}

func TestCommitted(t *testing.T) {
	for _, n := range groups {
		for _, x := range someTables(n) {
			var want [][]int
			for _, at := range instancesOf(n) {
				if plainRow(x, at).State == impl.RwCom {
					want = append(want, at[:])
				}
			}
			checkCommitted(t, x, want)
		}
		com := impl.Row{Ballot: 9, State: impl.RwCom, Attr: attr(1, make([]int, n)...)}
		var all [][]int
		for _, at := range instancesOf(n) {
			all = append(all, at[:])
			checkCommitted(t, withRow(table(n), at, com), [][]int{at[:]})
		}
		checkCommitted(t, fullTable(n, com), all)
	}
}

func TestCommittedOfNoRow(t *testing.T) {
	for _, n := range groups {
		checkCommitted(t, table(n), nil)
		for _, r := range someRows(n) {
			if r.State != impl.RwCom {
				checkCommitted(t, fullTable(n, r), nil)
			}
		}
	}
}

func TestCommittedWrittenOut(t *testing.T) {
	com := impl.Row{State: impl.RwCom, Cmd: read(1, 0), Attr: attr(1, 0, 0, 0)}
	pre := preRow(read(1, 0), 1, 0, 0, 0)
	x := table(3, []impl.Row{pre, com, com}, nil, []impl.Row{com, emptyRow(3), pre, pre, com, com})
	checkCommitted(t, x, [][]int{{0, 2}, {0, 3}, {2, 1}, {2, 5}, {2, 6}})
}

func TestCommittedInvalid(t *testing.T) {
	for _, x := range badTables() {
		if got, ok := impl.Committed(x); ok || len(got) != 0 {
			t.Error("Committed", x, got, ok)
		}
	}
}

// plainNextBallot looks at one number behind the other.
func plainNextBallot(ballot, me int) (int, bool) {
	for number := 8; number <= 9999; number++ {
		if number > ballot && number%8 == me {
			return number, true
		}
	}
	return 0, false
}

func TestNextBallotOfAllBallots(t *testing.T) {
	for _, n := range groups {
		at := instance{n - 1, 2}
		for ballot := range 10000 {
			r := emptyRow(n)
			r.Ballot = ballot
			x := withRow(table(n), at, r)
			for me := range n {
				want, wantOk := 0, false
				// To look at all numbers below each ballot takes too long.
				if ballot < 100 || ballot > 9900 || ballot%97 < 2 {
					want, wantOk = plainNextBallot(ballot, me)
				} else {
					want, wantOk = ballot+1, true
					for want%8 != me {
						want++
					}
				}
				if got, ok := impl.NextBallot(x, at[0], at[1], me); got != want || ok != wantOk {
					t.Error("NextBallot of", ballot, me, got, ok, "not", want, wantOk)
				}
			}
		}
	}
}

func TestNextBallotWrittenOut(t *testing.T) {
	cases := []struct{ ballot, me, want int }{
		{0, 0, 8}, {0, 1, 9}, {0, 4, 12}, {1, 0, 8}, {6, 2, 10}, {7, 0, 8}, {7, 4, 12}, {8, 0, 16}, {8, 1, 9}, {9, 1, 17}, {10, 1, 17},
		{12, 4, 20}, {15, 0, 16}, {15, 3, 19}, {16, 0, 24}, {23, 4, 28}, {9983, 0, 9984}, {9984, 0, 9992}, {9991, 0, 9992}, {9991, 4, 9996},
		// From here on there is none for some replicas, and then for all.
		{9992, 0, 0}, {9992, 1, 9993}, {9992, 4, 9996}, {9993, 1, 0}, {9995, 3, 0}, {9995, 4, 9996},
		{9996, 4, 0}, {9998, 0, 0}, {9999, 0, 0}, {9999, 4, 0}, {9999, 2, 0},
	}
	for _, c := range cases {
		r := impl.Row{Ballot: c.ballot, Vote: c.ballot, State: impl.RwAcc, Cmd: read(1, 1), Attr: attr(1, 0, 0, 0, 0, 0)}
		x := table(5, nil, []impl.Row{emptyRow(5), emptyRow(5), r})
		if got, ok := impl.NextBallot(x, 1, 3, c.me); got != c.want || ok != (c.want != 0) {
			t.Error("NextBallot of", c.ballot, c.me, got, ok)
		}
	}
}

func TestNextBallotLooksAtTheRowsBallotAlone(t *testing.T) {
	for _, n := range groups {
		for _, x := range someTables(n) {
			for _, at := range instancesOf(n) {
				for me := range n {
					want, wantOk := plainNextBallot(plainRow(x, at).Ballot, me)
					if got, ok := impl.NextBallot(x, at[0], at[1], me); got != want || ok != wantOk {
						t.Error("NextBallot", x, at, me, got, ok, "not", want, wantOk)
					}
				}
			}
		}
	}
}

func TestNextBallotInvalid(t *testing.T) {
	check := func(x impl.Table, at instance, me int) {
		t.Helper()
		if got, ok := impl.NextBallot(x, at[0], at[1], me); ok || got != 0 {
			t.Error("NextBallot", x, at, me, got, ok)
		}
	}
	for _, n := range groups {
		for _, x := range []impl.Table{table(n), fullTable(n, emptyRow(n))} {
			for _, me := range []int{math.MinInt, -8, -1, n, n + 1, 7, 8, 9, 1 << 32, math.MaxInt} {
				check(x, instance{0, 1}, me)
				check(x, instance{n - 1, 6}, me)
			}
			for _, at := range badInstances(n) {
				check(x, at, 0)
				check(x, at, n-1)
			}
		}
	}
	for _, x := range badTables() {
		check(x, instance{0, 1}, 0)
		check(x, instance{2, 6}, 2)
	}
}
