package tests

import (
	"math"
	"slices"
	"testing"

	"loop.example/g00698/impl"
)

// checkHealedAs reports where HealNet tells something else.
func checkHealedAs(t *testing.T, name string, x impl.Net, members []int, rounds int, want impl.Healed) {
	t.Helper()
	before := cloneNet(x)
	got, ok := impl.HealNet(x, members, rounds)
	if !ok || !sameHealed(got, want) || !impl.GoodNet(got.Net) {
		t.Errorf("HealNet, %s, %v, %d of %q:\n%d, %v, %v, not %d, %v\n%q, not\n%q", name, members, rounds, linesOf(before),
			got.Rounds, got.Done, ok, want.Rounds, want.Done, linesOf(got.Net), linesOf(want.Net))
	}
	if !sameNet(x, before) {
		t.Error("the argument became", x, "was", before)
	}
}

func checkNotHealed(t *testing.T, x impl.Net, members []int, rounds int) {
	t.Helper()
	if got, ok := impl.HealNet(x, members, rounds); ok || !sameHealed(got, impl.Healed{}) {
		t.Error("HealNet", x, members, rounds, got, ok)
	}
}

// A healCase is a net, members and rounds, how many of these there were, whether
// nothing is open then, and what comes of it, in words, as linesOf tells.
type healCase struct {
	name    string
	x       impl.Net
	members []int
	most    int
	rounds  int
	done    bool
	lines   []string
}

func checkHeals(t *testing.T, cases []healCase) {
	t.Helper()
	for _, c := range cases {
		got, ok := impl.HealNet(c.x, c.members, c.most)
		if !ok || got.Rounds != c.rounds || got.Done != c.done || !slices.Equal(linesOf(got.Net), c.lines) || !impl.GoodNet(got.Net) {
			t.Errorf("%s: %d, %v, %v, not %d, %v\n%q, not\n%q", c.name, got.Rounds, got.Done, ok, c.rounds, c.done, linesOf(got.Net), c.lines)
		}
	}
}

func TestHealNetOfOneCommand(t *testing.T) {
	const one, was = "|move 7 0 2 30|1:0,0,0", "asked 0.1: move 7 0 2 30"
	const row0, lead0, row1 = "at 0: 0.1 pre 0 0" + one, "at 0: 0.1 leads pre 0|move 7 0 2 30|1:0,0,0|1:0,0,0|true|", "at 1: 0.1 pre 0 0" + one
	const sent1, sent2 = "bag: pre 0 1 0 1 0 0 0" + one, "bag: pre 0 2 0 1 0 0 0" + one
	x := play(t, 3, submitAt(0, moved))
	voted := play(t, 3, submitAt(0, moved), stepAt(impl.NtTake, 0), stepAt(impl.NtCrash, 0))
	lost := play(t, 3, submitAt(0, moved), stepAt(impl.NtLose, 0), stepAt(impl.NtLose, 0))
	com := func(at, ballots string) string { return "at " + at + ": 0.1 com " + ballots + one }
	alone := func(ballot, seen string) []string {
		return []string{"at 0: 0.1 pre " + ballot + " 0" + one, "at 0: 0.1 leads prep " + ballot + "|-|0:0,0,0|0:0,0,0|false|[0]|pre " + seen + " 0" + one, sent1, sent2, was}
	}
	checkHeals(t, []healCase{
		{"nothing is open for them", x, []int{1, 2}, 60, 0, true, []string{row0, lead0 + "[0]|", sent1, sent2, was}},
		{"all need but talk", x, []int{0, 1, 2}, 60, 0, true, []string{com("0", "0 0"), com("1", "0 0"), com("2", "0 0"), was}},
		{"all need no round", x, []int{0, 1, 2}, 0, 0, true, []string{com("0", "0 0"), com("1", "0 0"), com("2", "0 0"), was}},
		{"they talk before the rounds", x, []int{0, 1}, 0, 0, false, []string{row0, lead0 + "[0 1]|", row1, sent2, was}},
		{"one round", x, []int{0, 1}, 1, 1, true, []string{com("0", "8 8"), com("1", "8 8"), sent2, was}},
		{"of two", x, []int{0, 1}, 2, 1, true, []string{com("0", "8 8"), com("1", "8 8"), sent2, was}},
		{"of all", x, []int{0, 1}, 60, 1, true, []string{com("0", "8 8"), com("1", "8 8"), sent2, was}},
		{"the others", x, []int{0, 2}, 60, 1, true, []string{com("0", "8 8"), com("2", "8 8"), sent1, was}},
		{"the leader has forgotten it", voted, []int{0, 1}, 60, 1, true, []string{com("0", "8 8"), com("1", "8 8"), sent2, was}},
		{"without the leader", voted, []int{1, 2}, 60, 1, true, []string{row0, com("1", "9 9"), com("2", "9 9"), sent2, "bag: preok 1 0 0 1 0 0 0|-|1:0,0,0", was}},
		{"only the leader knows", lost, []int{0, 2}, 60, 1, true, []string{com("0", "8 8"), com("2", "8 8"), was}},
		{"one alone, no round", x, []int{0}, 0, 0, false, []string{row0, lead0 + "[0]|", sent1, sent2, was}},
		{"one alone, one round", x, []int{0}, 1, 1, false, alone("8", "0")},
		{"one alone, two rounds", x, []int{0}, 2, 2, false, alone("16", "8")},
		{"one alone, all rounds", x, []int{0}, 60, 60, false, alone("480", "472")},
	})
}

// TestHealNetOfFewMembers is of two of five: they settle only what one of them
// has settled.
func TestHealNetOfFewMembers(t *testing.T) {
	at, none := instance{0, 1}, "-|0:0,0,0,0,0"
	one := "|move 7 0 2 30|1:0,0,0,0,0"
	of := com(moved, 1, noDeps(5)...)
	x := netOfHeld(5, nil, held{at, preRow(moved, 1, noDeps(5)...), []int{0}}, held{at, promised(5, 30), []int{1}})
	seen := func(ballot, own, hers string) []string {
		return []string{
			"at 0: 0.1 pre " + ballot + " 0" + one, "at 0: 0.1 leads prep " + ballot + "|" + none + "|0:0,0,0,0,0|false|[0 1]|pre " + own + " 0" + one + ";none " + hers + " 0|" + none,
			"at 1: 0.1 none " + hers + " 0|" + none,
		}
	}
	y := netOfHeld(5, nil, held{at, of, []int{1}}, held{at, promised(5, 9999), []int{4}})
	later := "at 4: 0.1 none 9999 0|" + none
	checkHeals(t, []healCase{
		{"again and again until it is above", x, []int{0, 1}, 1, 1, false, seen("32", "24", "32")},
		{"and once more", x, []int{0, 1}, 2, 2, false, seen("40", "32", "40")},
		{"one has settled it", y, []int{1, 3}, 60, 1, true, []string{"at 1: 0.1 com 0 0" + one, "at 3: 0.1 com 11 0" + one, later}},
		{"the first one lacks it", y, []int{0, 1}, 60, 1, true, []string{"at 0: 0.1 com 8 0" + one, "at 1: 0.1 com 0 0" + one, later}},
		{"two lack it", y, []int{0, 1, 2}, 60, 2, true, []string{"at 0: 0.1 com 8 0" + one, "at 1: 0.1 com 0 0" + one, "at 2: 0.1 com 10 0" + one, later}},
		{"two lack it, one round", y, []int{0, 1, 2}, 1, 1, false, []string{"at 0: 0.1 com 8 0" + one, "at 1: 0.1 com 0 0" + one, "at 2: 0.1 none 8 0|" + none, later}},
		{"nothing is open for them", y, []int{0, 2, 3}, 60, 0, true, []string{"at 1: 0.1 com 0 0" + one, later}},
		{"nothing is open for the one", y, []int{1}, 60, 0, true, []string{"at 1: 0.1 com 0 0" + one, later}},
	})
}

// TestHealNetOfRounds is of commands of which only the one that was asked knows:
// each round settles one of them, the first one first.
func TestHealNetOfRounds(t *testing.T) {
	for _, n := range groups {
		var steps []impl.Step
		for no := range impl.MaxRow {
			steps = append(steps, submitAt(0, read(1+no, no%4)))
			steps = append(steps, slices.Repeat([]impl.Step{stepAt(impl.NtLose, 0)}, n-1)...)
		}
		x := play(t, n, steps...)
		members := append([]int{0}, numbersBelow(n)[n-n/2:]...)
		for rounds := range impl.MaxHeals + 1 {
			h, ok := impl.HealNet(x, members, rounds)
			settled := min(rounds, impl.MaxRow)
			if !ok || h.Rounds != settled || h.Done != (rounds >= impl.MaxRow) {
				t.Error("HealNet", n, rounds, h.Rounds, h.Done, ok)
			}
			for _, me := range members {
				checkCommitted(t, h.Net.Reps[me].Table, pairsOf(instancesOf(n)[:settled]))
			}
			checkHealedAs(t, "rounds", x, members, rounds, plainHeal(x, members, rounds))
		}
		for _, rounds := range []int{math.MinInt, -60, -2, -1, 61, 62, 100, 1 << 32, 60 + 1<<32, math.MaxInt} {
			checkNotHealed(t, x, members, rounds)
			checkNotHealed(t, emptyNet(n), members, rounds)
		}
	}
}

// TestHealNetOfAllRounds is of one alone, which settles nothing in as many rounds
// as there may be.
func TestHealNetOfAllRounds(t *testing.T) {
	for _, n := range groups {
		x := netOfHeld(n, nil, held{instance{1, 1}, preRow(moved, 1, noDeps(n)...), []int{1}})
		for _, rounds := range []int{0, 1, 2, 59, 60} {
			h, ok := impl.HealNet(x, []int{1}, rounds)
			// Of replica 1 the ballots are 9, 17 and so on.
			want := 0
			if rounds > 0 {
				want = 8*rounds + 1
			}
			if !ok || h.Rounds != rounds || h.Done || h.Net.Reps[1].Table.Rows[1][0].Ballot != want {
				t.Error("HealNet", n, rounds, h, ok)
			}
			checkHealedAs(t, "one alone", x, []int{1}, rounds, plainHeal(x, []int{1}, rounds))
		}
	}
}

// TestHealNetOfBallots is of an instance of which the member that recovers it has
// one Ballot, and another one has another.
func TestHealNetOfBallots(t *testing.T) {
	ballots := []int{0, 1, 7, 8, 9, 10, 16, 17, 100, 9976, 9977, 9984, 9985, 9986, 9992, 9993, 9994, 9999}
	for _, n := range groups {
		members, at := []int{1, 2, 4}[:n/2+1], instance{0, 1}
		of := preRow(moved, 1, noDeps(n)...)
		for _, own := range ballots {
			for i, hers := range ballots {
				first, second, ahead := cloneRow(of), cloneRow(of), cloneRow(of)
				first.Ballot, second.Ballot, ahead.Ballot = own, hers, 9999
				by := members[1+i%(len(members)-1)]
				x := netOfHeld(n, nil, held{at, of, members}, held{at, first, []int{1}}, held{at, second, []int{by}}, held{at, ahead, []int{0}})
				want := max(7, own, hers) + 1
				for want%8 != 1 {
					want++
				}
				if want > 9999 {
					checkEnded(t, x, members, own)
					continue
				}
				// What all of them have as it was first proposed is accepted.
				settled := row(impl.RwCom, want, want, moved, of.Attr)
				y := withHeld(x, held{at, settled, members})
				checkHealedAs(t, "ballots", x, members, 60, impl.Healed{Net: y, Rounds: 1, Done: true})
			}
		}
	}
}

// checkEnded is of replica 1, which has the Ballot own of 0.1 and can't come to
// one that is great enough: it has come as far as it can.
func checkEnded(t *testing.T, x impl.Net, members []int, own int) {
	t.Helper()
	y := cloneNet(x)
	const last = 9993
	if own < last {
		of := y.Reps[1].Table.Rows[0][0]
		seen := cloneRow(of)
		if own < last-8 {
			seen.Ballot = last - 8
		}
		of.Ballot = last
		y.Reps[1].Table.Rows[0][0] = of
		y.Reps[1].Leads = []impl.Lead{prepLead(instance{0, 1}, last, []impl.Row{seen}, 1)}
	}
	for _, rounds := range []int{1, 60} {
		checkHealedAs(t, "no ballots are left", x, members, rounds, impl.Healed{Net: y})
	}
	checkHealedAs(t, "no rounds", x, members, 0, impl.Healed{Net: x})
}

// TestHealNetOfEnds is of members that can't recover one instance: others are
// recovered where they are ahead of it.
func TestHealNetOfEnds(t *testing.T) {
	const one = "|move 7 0 2 30|1:0,0,0"
	free, ended := preRow(moved, 1, 0, 0, 0), row(impl.RwPre, 9999, 0, moved, attr(1, 0, 0, 0))
	near := row(impl.RwPre, 9984, 0, moved, attr(1, 0, 0, 0))
	members := []int{0, 1}
	of := func(first, second impl.Row) impl.Net {
		return netOfHeld(3, nil, held{instance{0, 1}, first, members}, held{instance{2, 1}, second, members})
	}
	far := of(near, free)
	far.Reps[1].Table.Rows[0][0].Ballot = 9999
	talks := of(ended, free)
	talks.Bag = []impl.Msg{msg(impl.MsCom, 1, 0, 1, 1, 0, other, attr(1, 0, 0, 0)), idleFrom(3, 2, 1, 8)}
	checkHeals(t, []healCase{
		{"the first can't be", of(ended, free), members, 60, 0, false, []string{
			"at 0: 0.1 pre 9999 0" + one, "at 0: 2.1 pre 0 0" + one, "at 1: 0.1 pre 9999 0" + one, "at 1: 2.1 pre 0 0" + one}},
		{"the last can't be", of(free, ended), members, 60, 1, false, []string{
			"at 0: 0.1 com 8 8" + one, "at 0: 2.1 pre 9999 0" + one, "at 1: 0.1 com 8 8" + one, "at 1: 2.1 pre 9999 0" + one}},
		{"the last can't be, and there is no round for it", of(free, ended), members, 1, 1, false, []string{
			"at 0: 0.1 com 8 8" + one, "at 0: 2.1 pre 9999 0" + one, "at 1: 0.1 com 8 8" + one, "at 1: 2.1 pre 9999 0" + one}},
		{"the other one is too far", far, members, 60, 0, false, []string{
			"at 0: 0.1 pre 9992 0" + one, "at 0: 2.1 pre 0 0" + one, "at 0: 0.1 leads prep 9992|-|0:0,0,0|0:0,0,0|false|[0]|pre 9984 0" + one,
			"at 1: 0.1 pre 9999 0" + one, "at 1: 2.1 pre 0 0" + one}},
		{"the last ballot", of(near, near), members, 60, 2, true, []string{
			"at 0: 0.1 com 9992 9992" + one, "at 0: 2.1 com 9992 9992" + one, "at 1: 0.1 com 9992 9992" + one, "at 1: 2.1 com 9992 9992" + one}},
		{"they have talked before", talks, members, 60, 0, false, []string{
			"at 0: 0.1 pre 9999 0" + one, "at 0: 1.1 com 0 0|read 9 1|1:0,0,0", "at 0: 2.1 pre 0 0" + one, "at 1: 0.1 pre 9999 0" + one, "at 1: 2.1 pre 0 0" + one,
			"bag: accok 2 1 0 6 8 0 0|-|0:0,0,0"}},
	})
}

// TestHealNetOfDeps is of instances of which nobody has a row: nothing is done
// there.
func TestHealNetOfDeps(t *testing.T) {
	for _, n := range groups {
		most := numbersBelow(n/2 + 1)
		for _, on := range instancesOf(n)[impl.MaxRow:] {
			of := com(moved, 2, depsOn(n, on)...)
			x := netOfHeld(n, nil, held{instance{0, 1}, of, most})
			want := cloneNet(x)
			for no := range on[1] {
				want = withHeld(want, held{instance{on[0], no + 1}, row(impl.RwCom, 8, 8, impl.Cmd{}, emptyRow(n).Attr), most})
			}
			checkHealedAs(t, "all hang on it", x, most, 60, impl.Healed{Net: want, Rounds: on[1], Done: true})
		}
	}
}

// TestHealNetOfAFullBag is of members between which there is no message, while
// there are as many as there may be of others.
func TestHealNetOfAFullBag(t *testing.T) {
	for _, n := range groups {
		members, of := numbersBelow(n/2+1), preRow(moved, 1, noDeps(n)...)
		x := netOfHeld(n, nil, held{instance{0, 1}, of, members}, held{instance{n - 1, 6}, of, members[:1]})
		for i := range 80 {
			x.Bag = append(x.Bag, []impl.Msg{idleFrom(n, n-1, i%2, i), idleFrom(n, i%2, n-1, i)}[i/2%2])
		}
		want := plainHeal(x, members, 60)
		checkHealedAs(t, "a full bag", x, members, 60, want)
		if !want.Done || want.Rounds != 7 || !sameMsgs(want.Net.Bag, x.Bag) {
			t.Error("a full bag:", want.Rounds, want.Done, linesOf(want.Net))
		}
	}
}

// TestHealNetOfMixedNets is of nets to which no steps lead: in many of them all
// ends, or is not settled in all rounds.
func TestHealNetOfMixedNets(t *testing.T) {
	for _, n := range groups {
		m, done, ended, all := mixer(170+n), 0, 0, 0
		for i := range 240 {
			x := m.net(n)
			if i%2 == 0 {
				x = m.safeNet(n)
			}
			members, rounds := numbersIn(1+m.next(1<<n-1)), m.pick(0, 1, 2, 5, 20, 59, 60)
			want := plainHeal(x, members, rounds)
			checkHealedAs(t, "mixed", x, members, rounds, want)
			switch {
			case want.Done:
				done++
			case want.Rounds < rounds:
				ended++
			default:
				all++
			}
		}
		if min(done, ended, all) < 20 {
			t.Error("in groups of", n, "were done", done, "ended", ended, "and in all rounds not done", all)
		}
	}
}

func TestHealNetInvalid(t *testing.T) {
	for _, n := range groups {
		for _, x := range []impl.Net{emptyNet(n), fullNet(n), unsafeNets(n)[codeSafe][2]} {
			for i, members := range badMembers(n) {
				checkNotHealed(t, x, members, []int{0, 1, 60}[i%3])
			}
		}
		for i, x := range badNets(n) {
			checkNotHealed(t, x, numbersIn(1+i%7), []int{0, 1, 60}[i%3])
		}
	}
}
