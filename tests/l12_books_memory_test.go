package tests

import (
	"math"
	"slices"
	"testing"

	"loop.example/g00698/impl"
)

// ledgerEntries is entries with good commands, some of which are those of a
// book.
func (m *mixer) ledgerEntries(count int) []impl.Entry {
	var l []impl.Entry
	for i := range count {
		at := instance{m.next(5), 1 + m.next(impl.MaxRow)}
		l = append(l, entry(at, m.ledgerCmd(1+i), m.someTold()))
	}
	return l
}

func (m *mixer) someTold() impl.Told {
	return impl.Told{Code: m.next(4), Sum: m.pick(0, 100, 400)}
}

// bookArgs is args as said. The second list often begins as the first one, or
// as it does but for one number.
func (m *mixer) bookArgs(n int) bookArgs {
	a := bookArgs{table: m.withAmounts(m.execTable(n, 1+m.next(16))), at: instancesOf(n)[m.next(n*impl.MaxRow)], account: m.next(4)}
	if committed := plainCommitted(a.table); len(committed) > 0 && m.next(8) > 0 {
		a.at = committed[m.next(len(committed))]
	}
	a.x = m.safeNet(n)
	a.a = m.ledgerEntries(m.pick(0, 1, 2, 5, 8, 20, 59, 60))
	a.b = slices.Clone(a.a)
	switch m.next(4) {
	case 0:
		a.b = a.b[:m.next(len(a.b)+1)]
	case 1:
		a.a = a.a[:m.next(len(a.a)+1)]
	case 2:
		if len(a.b) > 0 {
			fields := fieldsOfEntry(&a.b[m.next(len(a.b))])
			*fields[m.next(len(fields))]++
		}
	}
	return a
}

func someBookArgs(count int) []bookArgs {
	m := mixer(127)
	var all []bookArgs
	for _, n := range groups {
		for range count {
			all = append(all, m.bookArgs(n))
		}
		full := m.bookArgs(n)
		full.table, full.x = fullTable(n, com(moved, 1, noDeps(n)...)), fullNet(n)
		all = append(all, full)
	}
	return all
}

// badBookArgs is args of which few are as said.
func badBookArgs(count int) []bookArgs {
	m, badT, badC := mixer(129), badTables(), badCmds()
	var all []bookArgs
	for _, n := range groups {
		badX, badAt := badNets(n), badInstances(n)
		for i := range count {
			a := m.bookArgs(n)
			switch i % 6 {
			case 0:
				a.table = cloneTable(badT[m.next(len(badT))])
			case 1:
				a.at = badAt[m.next(len(badAt))]
			case 2:
				a.x = cloneNet(badX[m.next(len(badX))])
			case 3:
				a.a = slices.Insert(a.a, m.next(len(a.a)+1), impl.Entry{Cmd: badC[m.next(len(badC))]})
			case 4:
				a.account = m.pick(oddNumbers...)
			case 5:
				a.b = append(a.b, m.ledgerEntries(m.next(62))...)
			}
			all = append(all, a)
		}
	}
	return all
}

func checkBookAnswers(t *testing.T, a bookArgs) {
	t.Helper()
	if got, want := a.answers(), a.plainAnswers(); !got.same(want) {
		t.Error("chapter 12 of", a, got, "not", want)
	}
}

func TestPromise22Chapter12AcceptsAll(t *testing.T) {
	for _, a := range append(someBookArgs(200), badBookArgs(300)...) {
		checkBookAnswers(t, a)
	}
	lists := [][]impl.Entry{nil, {}, {{}}, make([]impl.Entry, 60), make([]impl.Entry, 61), make([]impl.Entry, 1<<16), {{Rep: -1, No: math.MaxInt}}, {{Cmd: impl.Cmd{Kind: 3}}}}
	for i, x := range []impl.Net{{}, {Reps: make([]impl.Replica, 3)}, {Reps: make([]impl.Replica, 5)}, {Bag: make([]impl.Msg, 1)}, {Asked: make([]impl.Asked, 1)}} {
		for j, x2 := range []impl.Table{{}, {N: 3}, {N: 5, Rows: make([][]impl.Row, 5)}, {N: math.MinInt}, {N: math.MaxInt, Rows: make([][]impl.Row, 3)}} {
			for _, first := range lists {
				for k, second := range lists {
					number := oddNumbers[(5*i+3*j+k)%len(oddNumbers)]
					checkBookAnswers(t, bookArgs{x2, instance{number, -number}, x, first, second, number})
				}
			}
		}
	}
}

// numbersOfTable is all numbers of a table.
func numbersOfTable(x *impl.Table) []*int {
	// The rows are those of the table itself, but Me and N are not.
	r := impl.Replica{Table: *x}
	return append(numbersOfReplica(&r)[2:], &x.N)
}

// TestPromise22Chapter12OfEachField changes each number of args as said alone.
func TestPromise22Chapter12OfEachField(t *testing.T) {
	odd := []int{math.MinInt, -1, 0, 1, 2, 3, 4, 5, 6, 7, 100, 999, 1000, 1001, 9999, 10000, 1 << 32, math.MaxInt}
	for _, n := range groups {
		first, second := instance{0, 1}, instance{1, 1}
		a := bookArgs{at: first, account: 2, a: someEntries()[:4], b: someEntries()[:5]}
		a.table = table(n, []impl.Row{com(moved, 1, noDeps(n)...)}, []impl.Row{com(asked, 2, depsOn(n, first)...), preRow(other, 1, noDeps(n)...)})
		a.x = netOfHeld(n, []impl.Asked{askedOf(0, 1, moved)}, held{first, com(moved, 1, noDeps(n)...), []int{0, 2}}, held{second, com(asked, 2, depsOn(n, first)...), []int{0, 2}})
		fields := slices.Concat(numbersOfTable(&a.table), numbersOfNet(&a.x), []*int{&a.at[0], &a.at[1], &a.account})
		for _, l := range [][]impl.Entry{a.a, a.b} {
			for i := range l {
				fields = append(fields, fieldsOfEntry(&l[i])...)
			}
		}
		for _, field := range fields {
			was := *field
			for _, number := range append(odd, was-1, was+1) {
				*field = number
				checkBookAnswers(t, a)
			}
			*field = was
		}
	}
}

func TestPromise22Chapter12OfFewChanges(t *testing.T) {
	m := mixer(131)
	for _, n := range groups {
		for range 600 {
			a := m.bookArgs(n)
			all := [][]*int{numbersOfTable(&a.table), numbersOfNet(&a.x), {&a.at[0], &a.at[1], &a.account}}
			for range 1 + m.next(3) {
				fields := all[m.next(len(all))]
				*fields[m.next(len(fields))] = m.pick(oddNumbers...)
			}
			checkBookAnswers(t, a)
		}
	}
}

// TestPromise22Chapter12OfListLengths is of lists that are nil, cut off or too
// long.
func TestPromise22Chapter12OfListLengths(t *testing.T) {
	for _, n := range groups {
		from := bookArgs{table: fullTable(n, com(moved, 1, noDeps(n)...)), at: instance{0, 1}, x: unsafeNets(n)[codeSafe][2]}
		for _, change := range []func(*impl.Table){
			func(x *impl.Table) { x.Rows = nil },
			func(x *impl.Table) { x.Rows = x.Rows[:n-1] },
			func(x *impl.Table) { x.Rows = append(x.Rows, nil) },
			func(x *impl.Table) { x.Rows[0] = nil },
			func(x *impl.Table) { x.Rows[0] = []impl.Row{} },
			func(x *impl.Table) { x.Rows[0] = slices.Repeat(x.Rows[0], 2) },
			func(x *impl.Table) { x.Rows[0][0].Attr.Deps = nil },
			func(x *impl.Table) { x.Rows[0][0].Attr.Deps = noDeps(n - 1) },
			func(x *impl.Table) { x.Rows[0][0].Attr.Deps = noDeps(n + 1) },
		} {
			a := from.clone()
			change(&a.table)
			change(&a.x.Reps[n-1].Table)
			checkBookAnswers(t, a)
			checkBookAnswers(t, bookArgs{table: a.x.Reps[n-1].Table, at: instance{0, 1}})
		}
		for _, change := range []func(*impl.Net){
			func(x *impl.Net) { x.Reps = x.Reps[:n-1] },
			func(x *impl.Net) { x.Reps = append(x.Reps, x.Reps[0]) },
			func(x *impl.Net) { x.Bag = slices.Repeat(fullMsgs(n), 500) },
			func(x *impl.Net) { x.Asked = slices.Repeat(x.Asked, 500) },
		} {
			a := from.clone()
			change(&a.x)
			checkBookAnswers(t, a)
		}
	}
}

func TestPromise22Chapter12KeepsArguments(t *testing.T) {
	rests := []impl.Entry{{}, entry(instance{0, 1}, move(1, 0, 1, 5), told(codeDone)), {Cmd: impl.Cmd{Kind: 9}}}
	for i, a := range append(someBookArgs(100), badBookArgs(100)...) {
		plain, want := a.clone(), a.answers()
		n := len(a.x.Reps) % 8
		behinds := []impl.Row{
			{State: impl.RwCom, Cmd: move(1, 0, 1, 1), Attr: attr(999, slices.Repeat([]int{impl.MaxRow}, n)...)},
			{State: impl.RwCom, Cmd: move(2, 2, 3, 1), Attr: attr(1, make([]int, n)...)},
			{Ballot: -1},
		}
		behind, number, rest, otherRest := behinds[i%3], i%4-1, rests[i%3], rests[i/3%3]
		long := bookArgs{tableWithHidden(a.table, number, behind), a.at, netWithHidden(a.x, number, behind), withHidden(a.a, rest), withHidden(a.b, otherRest), a.account}
		if got := long.answers(); !got.same(want) {
			t.Error("reads behind a length:", a, got, "not", want)
		}
		checkTableKept(t, long.table, plain.table, number, behind)
		checkNetKept(t, long.x, plain.x, number, behind)
		checkKept(t, "the first entries", long.a, plain.a, rest)
		checkKept(t, "the second entries", long.b, plain.b, otherRest)
		if !a.same(plain) {
			t.Error("the arguments became", a, "were", plain)
		}
	}
}

// TestPromise22PrefixOfOfHiddenEntries is of lists that begin as the other one
// only with what stands behind their length, or with all that does.
func TestPromise22PrefixOfOfHiddenEntries(t *testing.T) {
	l := slices.Repeat(someEntries(), 7)
	for count := range 60 {
		checkPrefixOf(t, l[:count+1], l[:count], false)
		checkPrefixOf(t, l[:count], append(slices.Clone(l[:count]), impl.Entry{})[:count], true)
	}
}

func TestPromise22Chapter12IsNewMemory(t *testing.T) {
	for _, a := range someBookArgs(100) {
		given, want := a.clone(), a.answers()
		var m netMemory
		m.addNets(given.x)
		m.addTables(given.table)
		entries := [][]impl.Entry{given.a, given.b}
		for range 2 {
			got := given.answers()
			if !got.same(want) {
				t.Error("differs at another call:", a, got, "not", want)
			}
			m.numbers = append(m.numbers, got.sums)
			entries = append(entries, got.book, got.touching)
		}
		m.check(t, "chapter 12")
		for field := range fieldsOfEntry(&impl.Entry{}) {
			checkApart(t, "chapter 12, entries", entries, func(one *impl.Entry) *int { return fieldsOfEntry(one)[field] })
		}
		if again := a.answers(); !again.same(want) {
			t.Error("differs at a later call:", a, again, "not", want)
		}
	}
}

// TestPromise22AccountOfIsNewMemory is of lists of which all touch the account.
func TestPromise22AccountOfIsNewMemory(t *testing.T) {
	for _, count := range []int{1, 2, 7, 60} {
		l := slices.Repeat([]impl.Entry{entry(instance{0, 1}, move(1, 0, 1, 5), told(codeDone))}, count)
		first, _ := impl.AccountOf(l, 1)
		second, _ := impl.AccountOf(l, 0)
		if !slices.Equal(first, l) || !slices.Equal(second, l) {
			t.Error("AccountOf", l, first, second)
		}
		checkApart(t, "AccountOf", [][]impl.Entry{l, first, second}, func(one *impl.Entry) *int { return &one.No })
	}
}

func TestPromise22Chapter12HandsOutNothingBehindALength(t *testing.T) {
	for _, a := range someBookArgs(100) {
		r := a.answers()
		for _, number := range r.sums[len(r.sums):cap(r.sums)] {
			if number != 0 {
				t.Error("a number behind the length of the sums:", number)
			}
		}
		for _, l := range [][]impl.Entry{r.book, r.touching} {
			for _, one := range l[len(l):cap(l)] {
				if one != (impl.Entry{}) {
					t.Error("an entry behind the length of a list:", one)
				}
			}
		}
	}
}
