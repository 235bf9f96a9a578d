package tests

import (
	"math"
	"slices"
	"testing"

	"loop.example/g00698/impl"
)

// someSafeArgs is args as said: nets in which much is settled, and ones of no
// meaning.
func someSafeArgs(count int) []safeArgs {
	m := mixer(101)
	var all []safeArgs
	for _, n := range groups {
		for range count {
			x := m.safeNet(n)
			x.Bag = cloneMsgs(fullMsgs(n))
			x.Reps[1].Leads = fullReplica(n).Leads
			all = append(all, safeArgs{x, numbersIn(1 + m.next(1<<n-1))})
		}
		for _, x := range slices.Concat(someNets(n, count/4), unsafeNets(n)[codeSafe], unsafeNets(n)[codeUnlike], unsafeNets(n)[codeUnasked], unsafeNets(n)[codeLoose]) {
			all = append(all, safeArgs{x, numbersIn(1 + m.next(1<<n-1))})
		}
		for mask := 1; mask < 1<<n; mask++ {
			all = append(all, safeArgs{m.safeNet(n), numbersIn(mask)})
		}
	}
	return all
}

// badSafeArgs is args of which few are as said.
func badSafeArgs(count int) []safeArgs {
	m := mixer(103)
	var all []safeArgs
	for _, n := range groups {
		badX, badM := badNets(n), badMembers(n)
		for i := range count {
			a := safeArgs{m.safeNet(n), numbersIn(1 + m.next(1<<n-1))}
			switch i % 3 {
			case 0:
				a.x = cloneNet(badX[m.next(len(badX))])
			case 1:
				a.members = badM[m.next(len(badM))]
			case 2:
				a.members = nil
				for range m.next(n + 2) {
					a.members = append(a.members, m.pick(oddNumbers...))
				}
			}
			all = append(all, a)
		}
	}
	return all
}

func TestPromise22Chapter10AcceptsAll(t *testing.T) {
	for _, a := range append(someSafeArgs(100), badSafeArgs(300)...) {
		checkSafeAnswers(t, a)
	}
	for _, x := range []impl.Net{{}, {Reps: make([]impl.Replica, 3)}, {Reps: make([]impl.Replica, 5)}, {Bag: make([]impl.Msg, 1)}, {Asked: make([]impl.Asked, 1)}} {
		for _, members := range [][]int{nil, {}, {0}, {0, 1, 2}, {math.MaxInt}} {
			checkNoSafety(t, x, members)
		}
	}
}

// TestPromise22Chapter10OfEachField changes each number of rows, of what was
// asked and of the members alone, and one in eleven of a full net.
func TestPromise22Chapter10OfEachField(t *testing.T) {
	odd := []int{math.MinInt, -1, 0, 1, 2, 3, 4, 6, 7, 999, 1000, 1001, 9999, 10000, 1 << 32, math.MaxInt}
	for _, n := range groups {
		first, second, all := instance{0, 1}, instance{1, 1}, numbersBelow(n)
		small := safeArgs{netOfHeld(n, []impl.Asked{askedOf(0, 1, moved), askedOf(1, 1, asked)}, held{first, com(moved, 1, noDeps(n)...), all}, held{second, com(asked, 2, depsOn(n, first)...), []int{0, 2}}), []int{0, 2}}
		full := safeArgs{fullNet(n), numbersBelow(n)}
		for i, a := range []safeArgs{small, full} {
			fields := numbersOfNet(&a.x)
			for place := range a.members {
				fields = append(fields, &a.members[place])
			}
			for place, field := range fields {
				if i > 0 && place%11 != n%11 {
					continue
				}
				was := *field
				for _, number := range odd {
					*field = number
					checkSafeAnswers(t, a)
				}
				*field = was
			}
		}
	}
}

func TestPromise22Chapter10OfFewChanges(t *testing.T) {
	for _, n := range groups {
		m := mixer(107 + n)
		for range 400 {
			a := safeArgs{m.safeNet(n), numbersIn(1 + m.next(1<<n-1))}
			fields := numbersOfNet(&a.x)
			for place := range a.members {
				fields = append(fields, &a.members[place])
			}
			for range 1 + m.next(2) {
				*fields[max(m.next(len(fields)), m.pick(0, len(fields)-1-m.next(3)))] = m.pick(oddNumbers...)
			}
			checkSafeAnswers(t, a)
		}
	}
}

// lengthChanges makes lists of a net nil, cut off or too long. Replica 1 has a
// row of 0.1.
func lengthChanges(n int) []func(*impl.Net) {
	return []func(*impl.Net){
		func(x *impl.Net) { x.Reps = x.Reps[:n-1] },
		func(x *impl.Net) { x.Reps = append(x.Reps, x.Reps[0]) },
		func(x *impl.Net) { x.Reps = nil },
		func(x *impl.Net) { x.Asked = nil },
		func(x *impl.Net) { x.Asked = []impl.Asked{} },
		func(x *impl.Net) { x.Asked = slices.Repeat(x.Asked, 500) },
		func(x *impl.Net) { x.Bag = slices.Repeat(fullMsgs(n), 500) },
		func(x *impl.Net) { x.Reps[1].Table.Rows = nil },
		func(x *impl.Net) { x.Reps[1].Table.Rows = x.Reps[1].Table.Rows[:n-1] },
		func(x *impl.Net) { x.Reps[1].Table.Rows = append(x.Reps[1].Table.Rows, nil) },
		func(x *impl.Net) { x.Reps[1].Table.Rows[0] = nil },
		func(x *impl.Net) { x.Reps[1].Table.Rows[0] = []impl.Row{} },
		func(x *impl.Net) { x.Reps[1].Table.Rows[0] = slices.Repeat(x.Reps[1].Table.Rows[0], 6) },
		func(x *impl.Net) { x.Reps[1].Table.Rows[0] = slices.Repeat(x.Reps[1].Table.Rows[0], 7) },
		func(x *impl.Net) { x.Reps[1].Table.Rows[0][0].Attr.Deps = nil },
		func(x *impl.Net) { x.Reps[1].Table.Rows[0][0].Attr.Deps = noDeps(n - 1) },
		func(x *impl.Net) { x.Reps[1].Table.Rows[0][0].Attr.Deps = noDeps(n + 1) },
		func(x *impl.Net) { x.Reps[1].Leads = make([]impl.Lead, 40) },
	}
}

// TestPromise22Chapter10OfListLengths is of lists that are nil, cut off or too
// long.
func TestPromise22Chapter10OfListLengths(t *testing.T) {
	for _, n := range groups {
		from := safeArgs{unsafeNets(n)[codeSafe][2], numbersBelow(n)}
		for _, change := range lengthChanges(n) {
			a := from.clone()
			change(&a.x)
			checkSafeAnswers(t, a)
		}
	}
}

// rowBehind is one of a few rows to stand behind the length of a list of a net:
// each would show in an answer, or make the net a bad one.
func rowBehind(x impl.Net, i int) impl.Row {
	n := len(x.Reps) % 8
	return []impl.Row{
		{Ballot: 88, State: impl.RwCom, Vote: 88, Cmd: move(1, 0, 1, 1), Attr: attr(999, slices.Repeat([]int{impl.MaxRow}, n)...)},
		{Ballot: 99, State: impl.RwPre, Cmd: move(2, 2, 3, 1), Attr: attr(1, make([]int, n)...)},
		{Ballot: -1},
	}[i%3]
}

func TestPromise22Chapter10KeepsArguments(t *testing.T) {
	for i, a := range append(someSafeArgs(80), badSafeArgs(100)...) {
		plain, want := a.clone(), a.answers()
		behind, rest := rowBehind(a.x, i), i%4-1
		long := safeArgs{netWithHidden(a.x, rest, behind), withHidden(a.members, rest)}
		if got := long.answers(); !got.same(want) {
			t.Error("reads behind a length:", a, got, "not", want)
		}
		checkNetKept(t, long.x, plain.x, rest, behind)
		checkKept(t, "the members", long.members, plain.members, rest)
		if !a.same(plain) {
			t.Error("the arguments became", a, "were", plain)
		}
	}
}

func TestPromise22Chapter10IsNewMemory(t *testing.T) {
	for _, a := range someSafeArgs(100) {
		given, want := a.clone(), a.answers()
		var m netMemory
		m.addNets(given.x)
		m.numbers = append(m.numbers, given.members)
		for range 2 {
			got := given.answers()
			if !got.same(want) {
				t.Error("differs at another call:", a, got, "not", want)
			}
			m.addTables(got.settled)
		}
		m.check(t, "chapter 10")
		if again := a.answers(); !again.same(want) {
			t.Error("differs at a later call:", a, again, "not", want)
		}
	}
}

func TestPromise22Chapter10HandsOutNothingBehindALength(t *testing.T) {
	for _, a := range someSafeArgs(100) {
		rows := a.answers().settled.Rows
		for _, list := range rows[len(rows):cap(rows)] {
			if len(list) > 0 {
				t.Error("a list behind the length of the lists:", list)
			}
		}
		for _, list := range rows {
			for _, of := range list[len(list):cap(list)] {
				if !isZeroRow(of) {
					t.Error("a row behind the length of a list:", of)
				}
			}
			for _, of := range list {
				deps := of.Attr.Deps
				for _, no := range deps[len(deps):cap(deps)] {
					if no != 0 {
						t.Error("a number behind the length of Deps:", no)
					}
				}
			}
		}
	}
}
