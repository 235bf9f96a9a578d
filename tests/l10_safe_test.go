package tests

import (
	"math"
	"slices"
	"testing"

	"loop.example/g00698/impl"
)

// held is a row of an instance in the tables of some replicas.
type held struct {
	at  instance
	row impl.Row
	by  []int
}

// netOfHeld is a net of replicas that have these rows, in which these were asked.
func netOfHeld(n int, asked []impl.Asked, all ...held) impl.Net {
	x := emptyNet(n)
	x.Asked = asked
	for _, one := range all {
		for _, me := range one.by {
			x.Reps[me].Table = withRow(x.Reps[me].Table, one.at, cloneRow(one.row))
		}
	}
	return x
}

// noDeps is the Deps of a group of n that hang on nothing.
func noDeps(n int) []int {
	return make([]int, n)
}

// depsOn is the Deps of a group of n that hang on the instances of at's replica
// up to its no.
func depsOn(n int, on ...instance) []int {
	deps := noDeps(n)
	for _, at := range on {
		deps[at[0]] = max(deps[at[0]], at[1])
	}
	return deps
}

func checkAgreeIn(t *testing.T, name string, x impl.Net, want bool) {
	t.Helper()
	if got, ok := impl.AgreeIn(x); !ok || got != want {
		t.Errorf("AgreeIn, %s: %v, %v of %q", name, got, ok, linesOf(x))
	}
	if _, ok := impl.SettledOf(x); ok != want {
		t.Errorf("SettledOf, %s: %v of %q", name, ok, linesOf(x))
	}
	if got, ok := impl.OrdersAgree(x); ok != want || got != want {
		t.Errorf("OrdersAgree, %s: %v, %v of %q", name, got, ok, linesOf(x))
	}
	if code, ok := impl.SafeIn(x); !ok || (code == codeUnlike) == want {
		t.Errorf("SafeIn, %s: %d, %v of %q", name, code, ok, linesOf(x))
	}
}

func checkSettledOf(t *testing.T, name string, x impl.Net, want impl.Table) {
	t.Helper()
	if got, ok := impl.SettledOf(x); !ok || !sameTable(got, want) || !impl.GoodTable(got) {
		t.Errorf("SettledOf, %s: %v, %v, not %v, of %q", name, got, ok, want, linesOf(x))
	}
}

func checkAskedFor(t *testing.T, name string, x impl.Net, want bool) {
	t.Helper()
	if got, ok := impl.AskedFor(x); !ok || got != want {
		t.Errorf("AskedFor, %s: %v, %v of %q", name, got, ok, linesOf(x))
	}
}

func checkOrdersAgree(t *testing.T, name string, x impl.Net, want bool) {
	t.Helper()
	if got, ok := impl.OrdersAgree(x); !ok || got != want {
		t.Errorf("OrdersAgree, %s: %v, %v of %q", name, got, ok, linesOf(x))
	}
}

func checkSafeIn(t *testing.T, name string, x impl.Net, want int) {
	t.Helper()
	if got, ok := impl.SafeIn(x); !ok || got != want {
		t.Errorf("SafeIn, %s: %d, %v, not %d, of %q", name, got, ok, want, linesOf(x))
	}
}

// unlikeRows is rows that are RwCom and settle something else than r, most of
// them in one field alone.
func unlikeRows(n int, r impl.Row) []impl.Row {
	var rows []impl.Row
	add := func(change func(*impl.Row)) {
		of := cloneRow(r)
		change(&of)
		rows = append(rows, of)
	}
	add(func(of *impl.Row) { of.Cmd = impl.Cmd{} })
	add(func(of *impl.Row) { of.Cmd.Id++ })
	add(func(of *impl.Row) { of.Cmd.From = 1 })
	add(func(of *impl.Row) { of.Cmd.To = 3 })
	add(func(of *impl.Row) { of.Cmd.Amount++ })
	add(func(of *impl.Row) { of.Cmd = read(of.Cmd.Id, of.Cmd.From) })
	add(func(of *impl.Row) { of.Attr.Seq++ })
	add(func(of *impl.Row) { of.Attr.Seq-- })
	for rep := range n {
		add(func(of *impl.Row) { of.Attr.Deps[rep]++ })
		add(func(of *impl.Row) { of.Attr.Deps[rep]-- })
	}
	add(func(of *impl.Row) { slices.Reverse(of.Attr.Deps) })
	return rows
}

// settledRow is one of moved with a number in each place of its Attr.
func settledRow(n int) impl.Row {
	return com(moved, 5, []int{1, 2, 3, 4, 5}[:n]...)
}

func TestAgreeInOfUnlikeRows(t *testing.T) {
	for _, n := range groups {
		r := settledRow(n)
		for i, unlike := range unlikeRows(n, r) {
			at := instancesOf(n)[i%(n*impl.MaxRow)]
			for first := range n {
				for second := range n {
					if first == second {
						continue
					}
					checkAgreeIn(t, "two replicas", netOfHeld(n, nil, held{at, r, []int{first}}, held{at, unlike, []int{second}}), false)
					checkAgreeIn(t, "one and all others", netOfHeld(n, nil, held{at, r, numbersBelow(n)}, held{at, unlike, []int{second}}), false)
				}
			}
		}
	}
}

func TestAgreeInOfEachInstance(t *testing.T) {
	for _, n := range groups {
		r, ends := settledRow(n), []int{0, n - 1}
		for _, at := range instancesOf(n) {
			checkAgreeIn(t, "one alone", netOfHeld(n, nil, held{at, r, []int{n - 1}}), true)
			checkAgreeIn(t, "all", netOfHeld(n, nil, held{at, r, numbersBelow(n)}), true)
			checkAgreeIn(t, "the first and the last", netOfHeld(n, nil, held{at, r, ends}), true)
			for _, unlike := range unlikeRows(n, r)[:8] {
				checkAgreeIn(t, "the first and the last", netOfHeld(n, nil, held{at, r, ends[:1]}, held{at, unlike, ends[1:]}), false)
				for _, other := range instancesOf(n) {
					if other != at {
						x := netOfHeld(n, nil, held{at, r, ends[:1]}, held{other, unlike, ends[1:]})
						checkAgreeIn(t, "two instances", x, true)
					}
				}
			}
		}
	}
}

func TestAgreeInOfBallots(t *testing.T) {
	for _, n := range groups {
		for _, ballots := range [][2]int{{0, 0}, {1, 0}, {8, 8}, {9, 0}, {9999, 9998}, {9999, 9999}} {
			r := settledRow(n)
			like := cloneRow(r)
			like.Ballot, like.Vote = ballots[0], ballots[1]
			for me := range n {
				x := netOfHeld(n, nil, held{instance{1, 2}, r, numbersBelow(n)}, held{instance{1, 2}, like, []int{me}})
				checkAgreeIn(t, "another Ballot", x, true)
				checkSettledOf(t, "another Ballot", x, table(n, nil, []impl.Row{emptyRow(n), r}))
			}
		}
	}
}

func TestAgreeInOfOtherStates(t *testing.T) {
	for _, n := range groups {
		r := settledRow(n)
		for _, state := range []int{impl.RwPre, impl.RwAcc} {
			for _, unlike := range unlikeRows(n, r) {
				unlike.State, unlike.Ballot, unlike.Vote = state, 9, 8
				for me := range n {
					others := slices.Delete(numbersBelow(n), me, me+1)
					x := netOfHeld(n, nil, held{instance{0, 1}, r, []int{me}}, held{instance{0, 1}, unlike, others})
					checkAgreeIn(t, "RwCom in one", x, true)
					checkSettledOf(t, "RwCom in one", x, table(n, []impl.Row{r}))
					x = netOfHeld(n, nil, held{instance{0, 1}, r, others}, held{instance{0, 1}, unlike, []int{me}})
					checkAgreeIn(t, "RwCom in all but one", x, true)
					checkSettledOf(t, "RwCom in all but one", x, table(n, []impl.Row{r}))
				}
			}
		}
		x := netOfHeld(n, nil, held{instance{0, 1}, r, []int{1}}, held{instance{0, 1}, promised(n, 9), []int{0, 2}})
		checkAgreeIn(t, "RwNone in others", x, true)
		checkSettledOf(t, "RwNone in others", x, table(n, []impl.Row{r}))
		x = netOfHeld(n, nil, held{instance{0, 1}, settledRow(n), []int{0}}, held{instance{0, 1}, unlikeRows(n, r)[0], []int{1}})
		x.Reps[1].Table.Rows[0][0].State = impl.RwAcc
		checkAgreeIn(t, "RwAcc", x, true)
		x.Reps[1].Table.Rows[0][0].State = impl.RwCom
		checkAgreeIn(t, "RwCom", x, false)
	}
}

func TestSettledOf(t *testing.T) {
	for _, n := range groups {
		one, two, pre := settledRow(n), com(asked, 2, noDeps(n)...), row(impl.RwPre, 9, 8, other, attr(3, noDeps(n)...))
		acc, last := row(impl.RwAcc, 9, 9, other, attr(3, noDeps(n)...)), com(impl.Cmd{}, 0, noDeps(n)...)
		all, empty := numbersBelow(n), emptyRow(n)
		checkSettledOf(t, "nothing done", emptyNet(n), table(n))
		checkSettledOf(t, "nothing settled", netOfHeld(n, nil, held{instance{0, 6}, pre, all}, held{instance{1, 2}, acc, all}, held{instance{2, 1}, promised(n, 9), all}), table(n))
		for me := range n {
			x := netOfHeld(n, nil, held{instance{0, 1}, one, []int{me}})
			checkSettledOf(t, "one has it", x, table(n, []impl.Row{one}))
			x = netOfHeld(n, nil, held{instance{2, 6}, two, []int{me}})
			checkSettledOf(t, "one has it", x, table(n, nil, nil, []impl.Row{empty, empty, empty, empty, empty, two}))
			x = netOfHeld(n, nil, held{instance{0, 1}, one, []int{me}}, held{instance{0, 2}, two, []int{(me + 1) % n}}, held{instance{2, 1}, last, []int{(me + 2) % n}})
			checkSettledOf(t, "each has another one", x, table(n, []impl.Row{one, two}, nil, []impl.Row{last}))
			x = netOfHeld(n, nil, held{instance{1, 4}, one, []int{me}}, held{instance{1, 2}, two, all}, held{instance{1, 1}, pre, all}, held{instance{1, 3}, acc, all}, held{instance{1, 5}, pre, all}, held{instance{1, 6}, promised(n, 9), all})
			checkSettledOf(t, "behind ones that are not", x, table(n, nil, []impl.Row{empty, two, empty, one}))
			x = netOfHeld(n, nil, held{instance{0, 3}, pre, []int{me}}, held{instance{0, 2}, one, []int{(me + 1) % n}}, held{instance{0, 1}, two, []int{(me + 2) % n}})
			checkSettledOf(t, "ahead of one that is not", x, table(n, []impl.Row{two, one}))
		}
		x := emptyNet(n)
		for me := range n {
			x.Reps[me].Table = fullTable(n, row(impl.RwCom, 9000+me, me, moved, one.Attr))
		}
		checkSettledOf(t, "all", x, fullTable(n, one))
		// What is asked, led and in the bag does not count.
		full := fullNet(n)
		full.Reps = x.Reps
		full.Reps[1].Leads = fullReplica(n).Leads
		checkSettledOf(t, "all, and more", full, fullTable(n, one))
	}
}

func TestAskedFor(t *testing.T) {
	for _, n := range groups {
		of, none := com(moved, 1, noDeps(n)...), com(impl.Cmd{}, 0, noDeps(n)...)
		for i, at := range instancesOf(n) {
			elsewhere := instancesOf(n)[(i+1+i%7)%(n*impl.MaxRow)]
			its, others := askedOf(at[0], at[1], moved), askedOf(elsewhere[0], elsewhere[1], moved)
			for _, by := range [][]int{{0}, {n - 1}, {i % n}, numbersBelow(n)} {
				checkAskedFor(t, "asked", netOfHeld(n, []impl.Asked{its}, held{at, of, by}), true)
				checkAskedFor(t, "asked, the last", netOfHeld(n, []impl.Asked{others, its}, held{at, of, by}), true)
				checkAskedFor(t, "asked, the first", netOfHeld(n, []impl.Asked{its, others}, held{at, of, by}), true)
				checkAskedFor(t, "asked elsewhere", netOfHeld(n, []impl.Asked{others}, held{at, of, by}), false)
				checkAskedFor(t, "asked by nobody", netOfHeld(n, nil, held{at, of, by}), false)
				checkAskedFor(t, "none, asked by nobody", netOfHeld(n, nil, held{at, none, by}), true)
				checkAskedFor(t, "none, where one is asked", netOfHeld(n, []impl.Asked{its}, held{at, none, by}), true)
				for _, unlike := range unlikeRows(n, of)[1:6] {
					x := netOfHeld(n, []impl.Asked{askedOf(at[0], at[1], unlike.Cmd)}, held{at, of, by})
					checkAskedFor(t, "another one is asked", x, false)
					x.Asked = append(x.Asked, others)
					checkAskedFor(t, "another one is asked, and it elsewhere", x, false)
				}
			}
		}
		checkAskedFor(t, "nothing", emptyNet(n), true)
		checkAskedFor(t, "asked, and not settled", netOfHeld(n, []impl.Asked{askedOf(0, 1, moved)}), true)
	}
}

func TestAskedForOfOtherStates(t *testing.T) {
	for _, n := range groups {
		for _, state := range []int{impl.RwPre, impl.RwAcc} {
			of := row(state, 9, 8, moved, attr(1, noDeps(n)...))
			for _, at := range instancesOf(n) {
				checkAskedFor(t, "not settled", netOfHeld(n, nil, held{at, of, numbersBelow(n)}), true)
				checkAskedFor(t, "not settled", netOfHeld(n, []impl.Asked{askedOf(at[0], at[1], asked)}, held{at, of, numbersBelow(n)}), true)
				x := netOfHeld(n, nil, held{at, of, numbersBelow(n)}, held{at, com(moved, 1, noDeps(n)...), []int{at[0]}})
				checkAskedFor(t, "one has settled it", x, false)
			}
		}
	}
}

// TestAskedForOfUnlike is of replicas that do not agree: each row counts.
func TestAskedForOfUnlike(t *testing.T) {
	for _, n := range groups {
		of, none, wrong := com(moved, 1, noDeps(n)...), com(impl.Cmd{}, 0, noDeps(n)...), com(asked, 1, noDeps(n)...)
		at, its := instance{1, 1}, []impl.Asked{askedOf(1, 1, moved)}
		for me := range n {
			x := netOfHeld(n, its, held{at, of, numbersBelow(n)}, held{at, none, []int{me}})
			checkAskedFor(t, "one has none", x, true)
			checkAgreeIn(t, "one has none", x, false)
			x = netOfHeld(n, its, held{at, of, numbersBelow(n)}, held{at, wrong, []int{me}})
			checkAskedFor(t, "one has another one", x, false)
			checkAgreeIn(t, "one has another one", x, false)
		}
	}
}

// TestOrdersAgree is of tables of which some have less settled than others. In
// no net that agrees is there an order that differs.
func TestOrdersAgree(t *testing.T) {
	for _, n := range groups {
		first, second, third := instance{0, 1}, instance{1, 1}, instance{2, 1}
		one, loose, apart := com(moved, 1, noDeps(n)...), com(asked, 1, noDeps(n)...), com(other, 1, noDeps(n)...)
		behind, ahead := com(asked, 2, depsOn(n, first)...), com(read(3, 0), 2, depsOn(n, second)...)
		ringed := com(moved, 3, depsOn(n, second)...)
		checkOrdersAgree(t, "nothing", emptyNet(n), true)
		for me := range n {
			for other := range n {
				by, also := []int{me}, []int{other}
				checkOrdersAgree(t, "one hangs on the other", netOfHeld(n, nil, held{first, one, by}, held{second, behind, also}), true)
				checkOrdersAgree(t, "none hangs on the other", netOfHeld(n, nil, held{first, one, by}, held{second, loose, also}), true)
				checkOrdersAgree(t, "they don't interfere", netOfHeld(n, nil, held{first, one, by}, held{second, apart, also}), true)
				x := netOfHeld(n, nil, held{first, one, numbersBelow(n)}, held{second, behind, by}, held{third, ahead, also})
				checkOrdersAgree(t, "fewer are settled", x, true)
				x = netOfHeld(n, nil, held{first, ringed, by}, held{second, behind, numbersBelow(n)}, held{third, ahead, also})
				checkOrdersAgree(t, "in a ring", x, true)
			}
		}
	}
}

// unsafeNets is good nets with the codes that SafeIn tells of them: in each are
// the first of the faults that have that code, or a later one, and others.
func unsafeNets(n int) map[int][]impl.Net {
	first, second, all := instance{0, 1}, instance{1, 1}, numbersBelow(n)
	one, behind, loose := com(moved, 1, noDeps(n)...), com(asked, 2, depsOn(n, first)...), com(asked, 1, noDeps(n)...)
	unlike := com(moved, 2, noDeps(n)...)
	both := []impl.Asked{askedOf(0, 1, moved), askedOf(1, 1, asked)}
	return map[int][]impl.Net{
		codeSafe: {
			emptyNet(n),
			netOfHeld(n, both),
			netOfHeld(n, both, held{first, one, all}, held{second, behind, all}),
			netOfHeld(n, both, held{first, one, []int{0}}, held{second, behind, []int{n - 1}}),
			netOfHeld(n, nil, held{first, com(impl.Cmd{}, 0, noDeps(n)...), all}, held{second, row(impl.RwAcc, 8, 8, moved, one.Attr), all}),
			netOfHeld(n, []impl.Asked{askedOf(0, 1, moved), askedOf(1, 1, other)}, held{first, one, all}, held{second, com(other, 1, noDeps(n)...), all}),
		},
		codeUnlike: {
			netOfHeld(n, both, held{first, one, []int{0}}, held{first, unlike, []int{n - 1}}),
			netOfHeld(n, nil, held{first, one, []int{0}}, held{first, unlike, []int{1}}),
			netOfHeld(n, both, held{first, one, all}, held{first, unlike, []int{1}}, held{second, loose, all}),
			netOfHeld(n, nil, held{first, one, all}, held{first, unlike, []int{1}}, held{second, loose, all}),
		},
		codeUnasked: {
			netOfHeld(n, both[1:], held{first, one, all}),
			netOfHeld(n, both[:1], held{first, one, all}, held{second, behind, []int{n - 1}}),
			netOfHeld(n, both[:1], held{first, one, []int{0}}, held{second, loose, []int{1}}),
			netOfHeld(n, nil, held{first, one, all}, held{second, loose, all}),
		},
		codeLoose: {
			netOfHeld(n, both, held{first, one, all}, held{second, loose, all}),
			netOfHeld(n, both, held{first, one, []int{0}}, held{second, loose, []int{n - 1}}),
			netOfHeld(n, append(both, askedOf(2, 6, read(3, 2))), held{first, one, all}, held{second, behind, all}, held{instance{2, 6}, com(read(3, 2), 3, depsOn(n, first)...), []int{2}}),
		},
	}
}

func TestSafeIn(t *testing.T) {
	for _, n := range groups {
		for want, nets := range unsafeNets(n) {
			for i, x := range nets {
				checkSafeIn(t, "written out", x, want)
				if code := plainSafe(x); code != want {
					t.Error("the plain code is", code, "not", want, "of", i)
				}
				isAgreed := want != codeUnlike
				checkAgreeIn(t, "written out", x, isAgreed)
				if holds, ok := impl.DepsHold(plainSettled(x)); isAgreed && (!ok || holds == (want == codeLoose)) && want != codeUnasked {
					t.Error("DepsHold", holds, ok, "of", i)
				}
			}
		}
	}
}

// safeNet is a good net of replicas that have settled some of what was led in a
// group, by AttrFor rows of which some were not known in a few cases. In half
// of the cases there are changes, by most of which it is not safe.
func (m *mixer) safeNet(n int) impl.Net {
	whole, order := m.led(n, m.next(14), m.pick(0, 0, 0, 4))
	x := emptyNet(n)
	for me := range n {
		x.Reps[me] = replica(me, m.smaller(whole, m.pick(2, 6, 50, 1000)))
		for _, rows := range x.Reps[me].Table.Rows {
			for i := range rows {
				m.addBallot(&rows[i])
			}
		}
	}
	for _, i := range m.mixed(len(order)) {
		at := order[i]
		if c := plainRow(whole, at).Cmd; c != (impl.Cmd{}) {
			x.Asked = append(x.Asked, askedOf(at[0], at[1], c))
		}
	}
	if m.next(2) == 0 {
		for range 1 + m.next(2) {
			m.changeSafe(&x)
		}
	}
	return x
}

func (m *mixer) addBallot(r *impl.Row) {
	r.Ballot = m.pick(0, 8, 9, 17, 9999)
	if r.State != impl.RwNone {
		r.Vote = m.pick(0, r.Ballot, r.Ballot/2)
	}
}

// changeSafe changes what was asked, one row, or that of all replicas that have
// committed it.
func (m *mixer) changeSafe(x *impl.Net) {
	n := len(x.Reps)
	if place := m.next(len(x.Asked) + 1); place < len(x.Asked) && m.next(3) == 0 {
		switch m.next(3) {
		case 0:
			x.Asked = slices.Delete(x.Asked, place, place+1)
		case 1:
			x.Asked[place].Cmd = mixedCmds[1+m.next(len(mixedCmds)-1)]
		case 2:
			x.Asked[place].No = impl.MaxRow + 1 - x.Asked[place].No
			x.Asked = x.Asked[:place+1]
		}
		if !plainGoodNet(*x) {
			x.Asked = nil
		}
		return
	}
	at, what, only, of := instancesOf(n)[m.next(n*impl.MaxRow)], m.next(4), m.next(2*n), m.row(n, 1)
	for me, r := range x.Reps {
		committed := plainCommitted(r.Table)
		if only < n && only != me || len(committed) == 0 || !slices.Contains(committed, at) && what > 0 {
			continue
		}
		changed := &r.Table.Rows[committed[0][0]][committed[0][1]-1]
		if what > 0 {
			changed = &r.Table.Rows[at[0]][at[1]-1]
		}
		switch what {
		case 0, 1:
			changed.Attr = attr(changed.Attr.Seq, noDeps(n)...)
		case 2:
			changed.Attr = cloneAttr(of.Attr)
		case 3:
			changed.Cmd = of.Cmd
		}
	}
}

func checkSafeAnswers(t *testing.T, a safeArgs) safeAnswers {
	t.Helper()
	before := a.clone()
	got, want := a.answers(), before.plainAnswers()
	if !got.same(want) {
		t.Error("of", a, "came", got, "not", want)
	}
	if !a.same(before) {
		t.Error("the arguments became", a, "were", before)
	}
	return got
}

func TestSafeInOfDrawnNets(t *testing.T) {
	for _, n := range groups {
		m := mixer(70 + n)
		codes, finished := [5]int{}, [2]int{}
		for range 1000 {
			got := checkSafeAnswers(t, safeArgs{m.safeNet(n), numbersIn(1 + m.next(1<<n-1))})
			codes[got.code]++
			if got.is[3] {
				finished[1]++
			} else {
				finished[0]++
			}
		}
		if min(codes[0], codes[1], codes[2], codes[3]) < 50 || codes[4] > 0 || min(finished[0], finished[1]) < 50 {
			t.Error("in groups of", n, "were told the codes", codes, "and that something is finished", finished)
		}
	}
}

// TestSafeInOfMixedNets is of nets of which few parts fit to each other.
func TestSafeInOfMixedNets(t *testing.T) {
	for _, n := range groups {
		m := mixer(80 + n)
		for _, x := range append(someNets(n, 100), goodNets(n)...) {
			checkSafeAnswers(t, safeArgs{x, numbersIn(1 + m.next(1<<n-1))})
		}
	}
}

// checkNoSafety reports what is told of a net that is not good.
func checkNoSafety(t *testing.T, x impl.Net, members []int) {
	t.Helper()
	if got := (safeArgs{x, members}).answers(); !got.same(safeAnswers{}) {
		t.Error("of a net that is not good:", got, x)
	}
}

func TestSafeInInvalid(t *testing.T) {
	for _, n := range groups {
		for i, x := range badNets(n) {
			checkNoSafety(t, x, numbersIn(1+i%(1<<n-1)))
		}
		for _, x := range []impl.Net{unsafeNets(n)[codeSafe][2], unsafeNets(n)[codeUnlike][0], unsafeNets(n)[codeLoose][0]} {
			for _, number := range []int{math.MinInt, -1, 7, math.MaxInt} {
				y := cloneNet(x)
				y.Reps[0].Table.Rows[0][0].State = number
				checkNoSafety(t, y, []int{1})
				y = cloneNet(x)
				y.Asked[1].Rep = number
				checkNoSafety(t, y, []int{1})
			}
		}
	}
}
