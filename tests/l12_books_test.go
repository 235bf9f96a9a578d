package tests

import (
	"slices"
	"testing"

	"loop.example/g00698/impl"
)

func checkBookOf(t *testing.T, name string, x impl.Table, sums []int, book ...impl.Entry) {
	t.Helper()
	if gotSums, got, ok := impl.BookOf(x); !ok || !slices.Equal(gotSums, sums) || !slices.Equal(got, book) {
		t.Errorf("BookOf, %s: %v, %v, %v, not %v, %v", name, gotSums, got, ok, sums, book)
	}
	for _, at := range instancesOf(x.N) {
		i := slices.IndexFunc(book, func(one impl.Entry) bool { return one.Rep == at[0] && one.No == at[1] })
		if i < 0 {
			checkNotTold(t, x, at)
		} else if got, ok := impl.ToldOf(x, at[0], at[1]); !ok || got != book[i].Told {
			t.Errorf("ToldOf %v, %s: %v, %v, not %v", at, name, got, ok, book[i].Told)
		}
	}
}

func checkNotTold(t *testing.T, x impl.Table, at instance) {
	t.Helper()
	if got, ok := impl.ToldOf(x, at[0], at[1]); ok || got != told(codeNone) {
		t.Errorf("ToldOf %v of %v: %v, %v", at, x, got, ok)
	}
}

func TestBookOfNothing(t *testing.T) {
	for _, n := range groups {
		x, _ := impl.NewTable(n)
		checkBookOf(t, "a new table", x, atFirst)
		checkBookOf(t, "empty rows", fullTable(n, emptyRow(n)), atFirst)
		for _, state := range []int{impl.RwPre, impl.RwAcc} {
			checkBookOf(t, "not settled", fullTable(n, row(state, 9, 8, moved, attr(1, noDeps(n)...))), atFirst)
		}
		checkBookOf(t, "a ballot alone", table(n, []impl.Row{promised(n, 17)}), atFirst)
	}
}

func TestBookOfWrittenOut(t *testing.T) {
	for _, n := range groups {
		a, b, c, d := instance{0, 1}, instance{1, 1}, instance{2, 1}, instance{0, 2}
		give, look, back := move(7, 0, 2, 30), read(8, 2), move(9, 2, 0, 130)

		x := table(n, []impl.Row{com(give, 1, noDeps(n)...)})
		checkBookOf(t, "one move", x, []int{70, 100, 130, 100}, entry(a, give, told(codeDone)))

		x = table(n, []impl.Row{com(give, 1, noDeps(n)...)}, []impl.Row{com(look, 2, depsOn(n, a)...)}, []impl.Row{com(back, 3, depsOn(n, a, b)...)})
		checkBookOf(t, "all is settled", x, []int{200, 100, 0, 100},
			entry(a, give, told(codeDone)), entry(b, look, toldSum(130)), entry(c, back, told(codeDone)))

		x = table(n, []impl.Row{com(give, 3, depsOn(n, b, c)...)}, []impl.Row{com(look, 2, depsOn(n, c)...)}, []impl.Row{com(back, 1, noDeps(n)...)})
		checkBookOf(t, "the last instance first", x, []int{70, 100, 130, 100},
			entry(c, back, told(codePoor)), entry(b, look, toldSum(100)), entry(a, give, told(codeDone)))

		x = table(n, []impl.Row{com(give, 2, depsOn(n, b)...)}, []impl.Row{com(look, 1, depsOn(n, a)...)})
		checkBookOf(t, "in a ring, by Seq", x, []int{70, 100, 130, 100}, entry(b, look, toldSum(100)), entry(a, give, told(codeDone)))

		x = table(n, []impl.Row{com(look, 2, depsOn(n, d)...), com(give, 1, noDeps(n)...)})
		checkBookOf(t, "the second of a list first", x, []int{70, 100, 130, 100}, entry(d, give, told(codeDone)), entry(a, look, toldSum(130)))

		x = table(n, []impl.Row{com(impl.Cmd{}, 0, noDeps(n)...)}, nil, []impl.Row{com(impl.Cmd{}, 1, depsOn(n, a)...)})
		checkBookOf(t, "nothing to do", x, atFirst, entry(a, impl.Cmd{}, told(codeNone)), entry(c, impl.Cmd{}, told(codeNone)))

		ballots := com(give, 1, noDeps(n)...)
		ballots.Ballot, ballots.Vote = 9999, 9998
		checkBookOf(t, "with ballots", table(n, []impl.Row{ballots}), []int{70, 100, 130, 100}, entry(a, give, told(codeDone)))
	}
}

// TestBookOfLoose has what is settled and hangs on what is not: it is not in the
// book, nor does what it would do show.
func TestBookOfLoose(t *testing.T) {
	for _, n := range groups {
		a, b, c, d := instance{0, 1}, instance{1, 1}, instance{2, 1}, instance{0, 2}
		give, look, back := move(7, 0, 2, 30), read(8, 2), move(9, 2, 0, 100)
		for _, open := range [][]impl.Row{
			nil, {emptyRow(n)}, {promised(n, 9)}, {preRow(give, 1, noDeps(n)...)}, {row(impl.RwAcc, 8, 8, give, attr(1, noDeps(n)...))},
		} {
			x := table(n, open, []impl.Row{com(look, 2, depsOn(n, c)...)}, []impl.Row{com(back, 3, depsOn(n, a)...)})
			checkBookOf(t, "on one that is not", x, atFirst)
			x = table(n, open, []impl.Row{com(look, 2, depsOn(n, a)...)}, []impl.Row{com(back, 1, noDeps(n)...)})
			checkBookOf(t, "beside one that is", x, []int{200, 100, 0, 100}, entry(c, back, told(codeDone)))
			x = table(n, append(slices.Clone(open), emptyRow(n))[:1], []impl.Row{com(look, 2, depsOn(n, d)...)})
			x.Rows[0] = append(x.Rows[0], com(give, 1, noDeps(n)...))
			checkBookOf(t, "on one behind one that is not", x, []int{70, 100, 130, 100}, entry(d, give, told(codeDone)))
		}
		x := table(n, []impl.Row{com(give, 1, noDeps(n)...)}, []impl.Row{com(look, 2, depsOn(n, instance{0, 3})...)})
		checkBookOf(t, "on one behind the end", x, []int{70, 100, 130, 100}, entry(a, give, told(codeDone)))
		x = table(n, []impl.Row{com(give, 1, noDeps(n)...)}, []impl.Row{com(look, 2, depsOn(n, a, b)...)})
		checkBookOf(t, "on itself", x, []int{70, 100, 130, 100}, entry(a, give, told(codeDone)), entry(b, look, toldSum(130)))
	}
}

func TestBookOfPoor(t *testing.T) {
	for _, n := range groups {
		a, b, c, d := instance{0, 1}, instance{1, 1}, instance{2, 1}, instance{2, 2}
		first, second, third, look := move(1, 3, 1, 60), move(2, 3, 0, 41), move(3, 3, 0, 40), read(4, 3)
		x := table(n,
			[]impl.Row{com(first, 1, noDeps(n)...)},
			[]impl.Row{com(second, 2, depsOn(n, a)...)},
			[]impl.Row{com(third, 3, depsOn(n, a, b)...), com(look, 4, depsOn(n, a, b, c)...)},
		)
		checkBookOf(t, "poor", x, []int{140, 160, 100, 0},
			entry(a, first, told(codeDone)), entry(b, second, told(codePoor)), entry(c, third, told(codeDone)), entry(d, look, toldSum(0)))
		poor := fullTable(n, com(move(5, 1, 2, 1000), 1, noDeps(n)...))
		var book []impl.Entry
		for _, at := range instancesOf(n) {
			book = append(book, entry(at, move(5, 1, 2, 1000), told(codePoor)))
		}
		checkBookOf(t, "all poor", poor, atFirst, book...)
	}
}

// TestBookOfFull has as many instances as a table can have.
func TestBookOfFull(t *testing.T) {
	for _, n := range groups {
		all := instancesOf(n)
		x := fullTable(n, com(move(5, 1, 2, 10), 1, slices.Repeat([]int{impl.MaxRow}, n)...))
		var book []impl.Entry
		for i, at := range all {
			// The later the instance, the earlier it is done.
			x.Rows[at[0]][at[1]-1].Attr.Seq = 900 - i
			of := told(codeDone)
			if len(all)-i > 10 {
				of = told(codePoor)
			}
			book = append(book, entry(at, move(5, 1, 2, 10), of))
		}
		slices.Reverse(book)
		checkBookOf(t, "full", x, []int{100, 0, 200, 100}, book...)
	}
}

func TestToldOfInvalid(t *testing.T) {
	for _, n := range groups {
		for _, x := range []impl.Table{table(n), fullTable(n, com(moved, 1, noDeps(n)...)), fullTable(n, com(impl.Cmd{}, 0, noDeps(n)...))} {
			for _, bad := range badInstances(n) {
				checkNotTold(t, x, bad)
			}
		}
	}
}

func TestBookOfBadTables(t *testing.T) {
	for _, x := range badTables() {
		if sums, book, ok := impl.BookOf(x); ok || len(sums) != 0 || len(book) != 0 {
			t.Error("BookOf", x, sums, book, ok)
		}
		checkNotTold(t, x, instance{0, 1})
		checkNotTold(t, x, instance{1, 6})
	}
}

// withAmounts is a table with other amounts, of which some are more than is
// there: the same ones for each table of a group. Its order is the same.
func (m mixer) withAmounts(x impl.Table) impl.Table {
	y := cloneTable(x)
	for _, at := range instancesOf(x.N) {
		amount := m.pick(1, 50, 99, 100, 101, 200, 1000, 1+m.next(150), 1+m.next(150))
		if rows := y.Rows[at[0]]; at[1] <= len(rows) && rows[at[1]-1].Cmd.Kind == impl.CmMove {
			rows[at[1]-1].Cmd.Amount = amount
		}
	}
	return y
}

func TestBookOfDrawnTables(t *testing.T) {
	m := mixer(121)
	codes, books := [4]int{}, 0
	eachExecTable(func(x impl.Table) {
		x = mixer(m.next(1 << 20)).withAmounts(x)
		sums, book := plainBook(x)
		if gotSums, got, ok := impl.BookOf(x); !ok || !slices.Equal(gotSums, sums) || !slices.Equal(got, book) {
			t.Error("BookOf", x, gotSums, got, ok, "not", sums, book)
		}
		for _, one := range book {
			codes[one.Told.Code]++
		}
		if len(book) > 1 {
			books++
		}
	})
	for _, n := range groups {
		for range 300 {
			x, _ := m.led(n, m.next(30), m.pick(0, 6))
			x = mixer(m.next(1 << 20)).withAmounts(m.smaller(x, 20))
			sums, book := plainBook(x)
			checkBookOf(t, "as led", x, sums, book...)
			for _, one := range book {
				codes[one.Told.Code]++
			}
		}
	}
	if slices.Min(codes[:]) < 300 || books < 1000 {
		t.Error("met too rarely:", codes, books)
	}
}

// TestBookOfIsPlayCmdsOfOrderIn compares with the functions themselves.
func TestBookOfIsPlayCmdsOfOrderIn(t *testing.T) {
	m := mixer(123)
	for _, n := range groups {
		for range 300 {
			x := mixer(m.next(1 << 20)).withAmounts(m.execTable(n, 1+m.next(16)))
			order, _ := impl.OrderIn(x)
			var cmds []impl.Cmd
			for _, pair := range order {
				r, _ := impl.RowAt(x, pair[0], pair[1])
				cmds = append(cmds, r.Cmd)
			}
			sums, toldAll, _ := impl.PlayCmds(cmds)
			var book []impl.Entry
			for i, pair := range order {
				book = append(book, entry(instance(pair), cmds[i], toldAll[i]))
			}
			checkBookOf(t, "of OrderIn", x, sums, book...)
		}
	}
}

func checkSameTold(t *testing.T, name string, x impl.Net, want bool) {
	t.Helper()
	if got, ok := impl.SameTold(x); !ok || got != want {
		t.Errorf("SameTold, %s: %v, %v of %q", name, got, ok, linesOf(x))
	}
	if plainSameTold(x) != want {
		t.Error("not the case that is meant:", name)
	}
}

func TestSameToldOfFew(t *testing.T) {
	for _, n := range groups {
		a, b, all := instance{0, 1}, instance{1, 1}, numbersBelow(n)
		one, behind := com(move(7, 0, 2, 30), 1, noDeps(n)...), com(read(8, 2), 2, depsOn(n, a)...)
		checkSameTold(t, "nothing done", emptyNet(n), true)
		checkSameTold(t, "nothing settled", netOfHeld(n, nil, held{a, preRow(moved, 1, noDeps(n)...), all}), true)
		checkSameTold(t, "all the same", netOfHeld(n, nil, held{a, one, all}, held{b, behind, all}), true)
		for me := range n {
			checkSameTold(t, "one alone", netOfHeld(n, nil, held{a, one, []int{me}}), true)
			checkSameTold(t, "in some alone", netOfHeld(n, nil, held{a, one, all}, held{b, behind, []int{me}}), true)
			checkSameTold(t, "not ready in some", netOfHeld(n, nil, held{a, one, []int{me}}, held{b, behind, all}), true)
			checkSameTold(t, "none has both", netOfHeld(n, nil, held{a, one, []int{me}}, held{b, behind, []int{(me + 1) % n}}), true)
		}
	}
}

// TestSameToldOtherwise is of good nets in which one replica tells an instance
// otherwise: none of them can be reached.
func TestSameToldOtherwise(t *testing.T) {
	for _, n := range groups {
		a, b, all := instance{0, 1}, instance{n - 1, 6}, numbersBelow(n)
		of := func(c impl.Cmd) impl.Row { return com(c, 1, noDeps(n)...) }
		give, look := move(7, 0, 2, 30), read(8, 2)
		for me := range n {
			mine, others := []int{me}, slices.DeleteFunc(numbersBelow(n), func(other int) bool { return other == me })
			for _, with := range [][]int{others, others[:1], others[len(others)-1:]} {
				// A reader that hangs on nothing is told another sum where the move is there.
				x := netOfHeld(n, nil, held{b, of(look), mine}, held{b, of(look), with}, held{a, of(give), mine})
				checkSameTold(t, "another sum", x, false)
				x = netOfHeld(n, nil, held{b, of(look), mine}, held{b, of(look), with}, held{a, of(give), with})
				checkSameTold(t, "another sum", x, false)
				x = netOfHeld(n, nil, held{a, of(give), mine}, held{a, of(look), with})
				checkSameTold(t, "another kind", x, false)
				x = netOfHeld(n, nil, held{a, of(give), mine}, held{a, of(impl.Cmd{}), with})
				checkSameTold(t, "none", x, false)
				x = netOfHeld(n, nil, held{a, of(give), mine}, held{a, of(move(7, 0, 2, 101)), with})
				checkSameTold(t, "poor", x, false)
				// What is told alone counts.
				x = netOfHeld(n, nil, held{a, of(give), mine}, held{a, of(move(9, 3, 1, 99)), with})
				checkSameTold(t, "another command that is told the same", x, true)
				x = netOfHeld(n, nil, held{a, of(read(1, 0)), mine}, held{a, of(read(2, 3)), with})
				checkSameTold(t, "another account of the same sum", x, true)
				x = netOfHeld(n, nil, held{a, of(give), mine}, held{b, of(look), with})
				checkSameTold(t, "two instances", x, true)
				x = netOfHeld(n, nil, held{a, of(give), mine}, held{a, com(look, 1, depsOn(n, b)...), with})
				checkSameTold(t, "another one that is not ready", x, true)
			}
		}
		x := netOfHeld(n, nil, held{a, of(give), all}, held{b, of(look), all})
		checkSameTold(t, "all the same", x, true)
		x.Reps[n-1].Table.Rows[0][0].State = impl.RwAcc
		checkSameTold(t, "the last one lacks the move", x, false)
	}
}

func TestSameToldInvalid(t *testing.T) {
	for _, n := range groups {
		for _, x := range badNets(n) {
			if got, ok := impl.SameTold(x); got || ok {
				t.Error("SameTold", x, got, ok)
			}
		}
	}
}

func TestSameToldOfDrawnNets(t *testing.T) {
	for _, n := range groups {
		m, met := mixer(125+n), map[bool]int{}
		for range 600 {
			x, seed := m.safeNet(n), m.next(1<<20)
			for i, r := range x.Reps {
				// Of one net in five the amounts are not the same.
				if m.next(5*n) == 0 {
					seed++
				}
				x.Reps[i].Table = mixer(seed).withAmounts(r.Table)
			}
			want := plainSameTold(x)
			checkSameTold(t, "drawn", x, want)
			met[want]++
		}
		if min(met[true], met[false]) < 50 {
			t.Error("met too rarely:", met)
		}
	}
}
