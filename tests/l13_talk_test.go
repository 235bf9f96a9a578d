package tests

import (
	"slices"
	"testing"

	"loop.example/g00698/impl"
)

func checkTalked(t *testing.T, name string, x impl.Net, members []int, taken int, want impl.Net) {
	t.Helper()
	before := cloneNet(x)
	got, count, ok := impl.TalkAmong(x, members)
	if !ok || count != taken || !sameNet(got, want) || !impl.GoodNet(got) {
		t.Errorf("TalkAmong, %s, %v of %q:\n%d, %v, not %d\n%q, not\n%q", name, members, linesOf(before), count, ok, taken, linesOf(got), linesOf(want))
	}
	if !sameNet(x, before) {
		t.Error("the argument became", x, "was", before)
	}
}

// checkSilent reports where members have something to tell each other.
func checkSilent(t *testing.T, name string, x impl.Net, members []int) {
	t.Helper()
	checkTalked(t, name, x, members, 0, x)
}

// A talkCase is a net, members that talk in it, how many messages they take, and
// what comes of it, in words, as linesOf tells.
type talkCase struct {
	name    string
	x       impl.Net
	members []int
	taken   int
	lines   []string
}

func checkTalks(t *testing.T, cases []talkCase) {
	t.Helper()
	for _, c := range cases {
		got, taken, ok := impl.TalkAmong(c.x, c.members)
		if !ok || taken != c.taken || !slices.Equal(linesOf(got), c.lines) || !impl.GoodNet(got) {
			t.Errorf("%s: %d, %v, not %d\n%q, not\n%q", c.name, taken, ok, c.taken, linesOf(got), c.lines)
		}
	}
}

func TestTalkAmongOfNoMessages(t *testing.T) {
	for _, n := range groups {
		for _, x := range someNets(n, 10) {
			x.Bag = nil
			for mask := 1; mask < 1<<n; mask++ {
				checkSilent(t, "an empty bag", x, numbersIn(mask))
			}
		}
	}
}

// idleFrom is a message of which nothing comes where To leads nothing.
func idleFrom(n, from, to, ballot int) impl.Msg {
	return msg(impl.MsAccOk, from, to, 0, impl.MaxRow, ballot, impl.Cmd{}, emptyRow(n).Attr)
}

// TestTalkAmongOfOneMessage is of one from each to each: it is taken where both
// are members.
func TestTalkAmongOfOneMessage(t *testing.T) {
	for _, n := range groups {
		for from := range n {
			for to := range n {
				if from == to {
					continue
				}
				x := emptyNet(n)
				x.Bag = []impl.Msg{idleFrom(n, from, to, 8)}
				for mask := 1; mask < 1<<n; mask++ {
					if mask&maskOf(from) != 0 && mask&maskOf(to) != 0 {
						checkTalked(t, "both are members", x, numbersIn(mask), 1, emptyNet(n))
					} else {
						checkSilent(t, "one is no member", x, numbersIn(mask))
					}
				}
			}
		}
	}
}

// TestTalkAmongOfOthers is of a bag with messages from each to each: those that
// are not between members stay as they stand.
func TestTalkAmongOfOthers(t *testing.T) {
	for _, n := range groups {
		x := emptyNet(n)
		for i := range 80 {
			from := i % n
			x.Bag = append(x.Bag, idleFrom(n, from, (from+1+i/n%(n-1))%n, i))
		}
		for mask := 1; mask < 1<<n; mask++ {
			want := emptyNet(n)
			for _, m := range x.Bag {
				if mask&maskOf(m.From) == 0 || mask&maskOf(m.To) == 0 {
					want.Bag = append(want.Bag, m)
				}
			}
			checkTalked(t, "from each to each", x, numbersIn(mask), 80-len(want.Bag), want)
		}
	}
}

func TestTalkAmongOfOneCommand(t *testing.T) {
	const one, was = "|move 7 0 2 30|1:0,0,0", "asked 0.1: move 7 0 2 30"
	const row0, lead0 = "at 0: 0.1 pre 0 0" + one, "at 0: 0.1 leads pre 0|move 7 0 2 30|1:0,0,0|1:0,0,0|true|"
	const row1, row2 = "at 1: 0.1 pre 0 0" + one, "at 2: 0.1 pre 0 0" + one
	const sent1, sent2 = "bag: pre 0 1 0 1 0 0 0" + one, "bag: pre 0 2 0 1 0 0 0" + one
	const preOk, prep0 = "bag: preok 1 0 0 1 0 0 0|-|1:0,0,0", "bag: prep 1 0 0 1 9 0 0|-|0:0,0,0"
	submitted := play(t, 3, submitAt(0, moved))
	voted := play(t, 3, submitAt(0, moved), stepAt(impl.NtTake, 0))
	recovered := play(t, 3, submitAt(0, moved), stepAt(impl.NtTake, 0), stepOf(impl.NtRecover, 1, 0, 1))
	unknown := play(t, 3, submitAt(0, moved), stepOf(impl.NtRecover, 1, 0, 1))
	none := func(at string) string { return "at " + at + ": 0.1 com 9 9|-|0:0,0,0" }
	com := func(at, ballots string) string { return "at " + at + ": 0.1 com " + ballots + one }
	checkTalks(t, []talkCase{
		{"the leader alone", submitted, []int{0}, 0, []string{row0, lead0 + "[0]|", sent1, sent2, was}},
		{"without the leader", submitted, []int{1, 2}, 0, []string{row0, lead0 + "[0]|", sent1, sent2, was}},
		{"with the one", submitted, []int{0, 1}, 2, []string{row0, lead0 + "[0 1]|", row1, sent2, was}},
		{"with the other", submitted, []int{0, 2}, 2, []string{row0, lead0 + "[0 2]|", row2, sent1, was}},
		{"all", submitted, []int{0, 1, 2}, 6, []string{com("0", "0 0"), com("1", "0 0"), com("2", "0 0"), was}},
		{"the answer alone", voted, []int{0, 1}, 1, []string{row0, lead0 + "[0 1]|", row1, sent2, was}},
		{"the answer stays", voted, []int{0, 2}, 2, []string{row0, lead0 + "[0 2]|", row1, row2, preOk, was}},
		{"recovered", recovered, []int{1, 2}, 7, []string{row0, lead0 + "[0]|", com("1", "9 9"), com("2", "9 9"), sent2, preOk, prep0, was}},
		{"what nobody knows of", unknown, []int{1, 2}, 5, []string{row0, lead0 + "[0]|", none("1"), none("2"), sent1, sent2, prep0, was}},
		{"recovered, all", recovered, []int{0, 1, 2}, 13, []string{com("0", "9 0"), com("1", "9 9"), com("2", "9 0"), was}},
	})
}

// TestTalkAmongOfFive is of three of five: what these send to the others is lost,
// and what was sent ahead of that is not.
func TestTalkAmongOfFive(t *testing.T) {
	const one, was = "|read 8 2|1:0,0,0,0,0", "asked 4.1: read 8 2"
	x := play(t, 5, submitAt(4, asked), stepAt(impl.NtTake, 0), stepAt(impl.NtLose, 3), stepAt(impl.NtLose, 2), stepOf(impl.NtRecover, 1, 4, 1))
	row4, lead4 := "at 4: 4.1 pre 0 0"+one, "at 4: 4.1 leads pre 0|read 8 2|1:0,0,0,0,0|1:0,0,0,0,0|true|[4]|"
	pre1, pre2 := "bag: pre 4 1 4 1 0 0 0"+one, "bag: pre 4 2 4 1 0 0 0"+one
	prep := func(to string) string { return "bag: prep 1 " + to + " 4 1 9 0 0|-|0:0,0,0,0,0" }
	com := func(at string) string { return "at " + at + ": 4.1 com 9 9" + one }
	led := "at 1: 4.1 leads prep 9|-|0:0,0,0,0,0|0:0,0,0,0,0|false|[1 3]|none 0 0|-|0:0,0,0,0,0;none 9 0|-|0:0,0,0,0,0"
	checkTalks(t, []talkCase{
		{"a majority", x, []int{0, 1, 2}, 14, []string{com("0"), com("1"), com("2"), row4, lead4, pre1, pre2, prep("3"), prep("4"), was}},
		{"another majority", x, []int{0, 1, 3}, 14, []string{com("0"), com("1"), com("3"), row4, lead4, pre1, pre2, prep("2"), prep("4"), was}},
		{"fewer", x, []int{1, 3}, 2, []string{
			"at 0: 4.1 pre 0 0" + one, "at 1: 4.1 none 9 0|-|0:0,0,0,0,0", led, "at 3: 4.1 none 9 0|-|0:0,0,0,0,0", row4, lead4,
			pre1, pre2, prep("0"), prep("2"), prep("4"), was}},
		{"without the one that recovers", x, []int{0, 2, 3}, 0, linesOf(x)},
	})
}

// TestTalkAmongOfOrder is of messages of which it matters which one is taken
// first, and of what is sent, which is taken last.
func TestTalkAmongOfOrder(t *testing.T) {
	a := attr(1, 0, 0, 0)
	pre := msg(impl.MsPre, 0, 1, 0, 1, 0, moved, a)
	prep := msg(impl.MsPrep, 0, 1, 0, 1, 8, impl.Cmd{}, emptyRow(3).Attr)
	back := msg(impl.MsPrep, 1, 0, 0, 1, 9, impl.Cmd{}, emptyRow(3).Attr)
	apart := idleFrom(3, 2, 0, 7)
	of := func(bag ...impl.Msg) impl.Net {
		x := netWith(replica(0, table(3, []impl.Row{row(impl.RwPre, 0, 0, moved, a)}), preLead(instance{0, 1}, 0, moved, a, a, true, 0)))
		x.Reps[1] = replica(1, table(3, nil, []impl.Row{preRow(asked, 1, 0, 0, 0)}))
		x.Bag = bag
		return x
	}
	const lead, hers = "at 0: 0.1 leads pre 0|move 7 0 2 30|1:0,0,0|1:0,0,0|true|[0]|", "at 1: 1.1 pre 0 0|read 8 2|1:0,0,0"
	const stays = "bag: accok 2 0 0 6 7 0 0|-|0:0,0,0"
	checkTalks(t, []talkCase{
		{"pre, and then prep", of(pre, apart, prep), []int{0, 1}, 5, []string{
			"at 0: 0.1 acc 0 0|move 7 0 2 30|2:0,1,0", "at 0: 0.1 leads acc 0|move 7 0 2 30|2:0,1,0|2:0,1,0|false|[0]|",
			"at 1: 0.1 pre 8 0|move 7 0 2 30|2:0,1,0", hers, stays}},
		{"prep, and then pre", of(prep, pre, apart), []int{0, 1}, 3, []string{
			"at 0: 0.1 pre 0 0|move 7 0 2 30|1:0,0,0", lead, "at 1: 0.1 none 8 0|-|0:0,0,0", hers, stays}},
		// The vote is sent ahead of the promise, but comes behind it.
		{"prep ahead of what is sent", of(apart, pre, back), []int{0, 1}, 4, []string{
			"at 0: 0.1 pre 9 0|move 7 0 2 30|1:0,0,0", "at 1: 0.1 pre 0 0|move 7 0 2 30|2:0,1,0", hers, stays}},
	})
}

// TestTalkAmongOfRefused is of a message by which a table would not be good: it
// alone is lost, and it counts as taken.
func TestTalkAmongOfRefused(t *testing.T) {
	for _, n := range groups {
		x, m := refusing(n)
		settles := msg(impl.MsCom, 2, 1, 2, 1, 0, moved, attr(1, noDeps(n)...))
		settled := netWith(replica(1, withRow(x.Reps[1].Table, instance{2, 1}, com(moved, 1, noDeps(n)...))))
		idles, members := slices.Repeat([]impl.Msg{idleFrom(n, 2, 1, 8)}, 80), []int{1, 2}
		for _, c := range []struct {
			name string
			bag  []impl.Msg
			want impl.Net
		}{
			{"one", []impl.Msg{m}, x},
			{"and again", []impl.Msg{m, m, m}, x},
			{"ahead of others", append([]impl.Msg{m}, idles[1:]...), x},
			{"behind others", append(slices.Clone(idles[1:]), m), x},
			{"among others", slices.Concat(idles[:30], []impl.Msg{m}, idles[:40]), x},
			{"ahead of one that settles it", []impl.Msg{m, settles}, settled},
			{"between", []impl.Msg{idles[0], m, settles, idles[0]}, settled},
		} {
			y := cloneNet(x)
			y.Bag = c.bag
			checkTalked(t, c.name, y, members, len(c.bag), c.want)
			checkTalked(t, c.name+", all", y, numbersBelow(n), len(c.bag), c.want)
			checkSilent(t, c.name+", not To a member", y, []int{0, 2})
			checkSilent(t, c.name+", not From a member", y, []int{0, 1})
		}
	}
}

// TestTalkAmongOfARefusedVote is of the last vote for a lead that can't propose:
// the lead does not even count it.
func TestTalkAmongOfARefusedVote(t *testing.T) {
	for _, n := range groups {
		none := noDeps(n)
		seen := slices.Repeat([]impl.Row{promised(n, 8)}, n/2)
		rows := []impl.Row{promised(n, 8), row(impl.RwPre, 0, 0, read(2, 0), attr(999, none...))}
		x := netWith(replica(0, table(n, rows), prepLead(instance{0, 1}, 8, seen, numbersBelow(n/2)...)))
		want := cloneNet(x)
		told := msg(impl.MsPrepOk, n-1, 0, 0, 1, 8, moved, attr(1, none...))
		told.State = impl.RwPre
		x.Bag = []impl.Msg{told, told}
		checkTalked(t, "the last vote", x, []int{0, n - 1}, 2, want)
	}
}

// TestTalkAmongOfAFullBag is of a bag in which there is no room for what is sent
// meanwhile: it has none of it in the end.
func TestTalkAmongOfAFullBag(t *testing.T) {
	for _, n := range groups {
		a := attr(1, noDeps(n)...)
		at, last := instance{0, 1}, n-1
		var apart []impl.Msg
		for ballot := range 79 {
			apart = append(apart, idleFrom(n, last, ballot%last, ballot))
		}
		// Only the one that leads misses but one vote.
		lead := preLead(at, 0, moved, a, a, true, slices.Delete(numbersBelow(n), 1, 2)...)
		x := netWith(replica(0, table(n, []impl.Row{row(impl.RwPre, 0, 0, moved, a)}), lead))
		vote := msg(impl.MsPreOk, 1, 0, 0, 1, 0, impl.Cmd{}, a)
		members := numbersBelow(last)
		for _, place := range []int{0, 40, 79} {
			x.Bag = slices.Insert(slices.Clone(apart), place, vote)
			want := netOfHeld(n, nil, held{at, com(moved, 1, noDeps(n)...), members})
			want.Bag = apart
			checkTalked(t, "one vote is left", x, members, n-1, want)
		}
	}
}

// TestTalkAmongOfMany is of all that can be led at once, each a whole way from
// its last vote on: no bag has room for it at any time but the first one.
func TestTalkAmongOfMany(t *testing.T) {
	for _, n := range groups {
		x, want := emptyNet(n), emptyNet(n)
		none := attr(1, noDeps(n)...)
		for _, at := range instancesOf(n) {
			me := at[0]
			// What touches no account hangs on nothing, whatever comes first.
			pre := row(impl.RwPre, 8, 0, impl.Cmd{}, none)
			who := []int{me, (me + 1) % n}[:n/2]
			slices.Sort(who)
			seen := slices.Repeat([]impl.Row{promised(n, 8)}, n/2)
			x.Reps[me].Table = withRow(x.Reps[me].Table, at, promised(n, 8))
			x.Reps[me].Leads = append(x.Reps[me].Leads, prepLead(at, 8, seen, who...))
			x.Bag = append(x.Bag, withRowOf(msg(impl.MsPrepOk, (me+2)%n, me, me, at[1], 8, impl.Cmd{}, none), pre))
			for other := range n {
				want.Reps[other].Table = withRow(want.Reps[other].Table, at, row(impl.RwCom, 8, 8, impl.Cmd{}, none))
			}
		}
		checkTalked(t, "all at once", x, numbersBelow(n), len(instancesOf(n))*(1+5*(n-1)), want)
	}
}

// TestTalkAmongOfAll is DeliverAll, where that empties the bag.
func TestTalkAmongOfAll(t *testing.T) {
	for _, n := range groups {
		emptied, m := 0, mixer(150+n)
		for range 150 {
			x := m.played(n)
			want, taken, _ := impl.DeliverAll(x)
			if len(want.Bag) == 0 {
				checkTalked(t, "all", x, numbersBelow(n), taken, want)
				emptied++
			}
		}
		if emptied < 100 {
			t.Error("in groups of", n, "were emptied", emptied)
		}
	}
}

// TestTalkAmongOfMixedNets is of nets of which few parts fit to each other.
func TestTalkAmongOfMixedNets(t *testing.T) {
	for _, n := range groups {
		m, most, left := mixer(160+n), 0, 0
		for _, x := range append(someNets(n, 150), goodNets(n)...) {
			members := numbersIn(1 + m.next(1<<n-1))
			want, taken := plainTalk(x, members)
			checkTalked(t, "mixed", x, members, taken, want)
			most, left = max(most, taken), left+min(len(want.Bag), 1)
		}
		if most < 70 || left < 50 {
			t.Error("in groups of", n, "the most were", most, "and bags were left", left)
		}
	}
}

func TestTalkAmongInvalid(t *testing.T) {
	for _, n := range groups {
		for _, x := range []impl.Net{emptyNet(n), fullNet(n), unsafeNets(n)[codeSafe][2]} {
			for _, members := range badMembers(n) {
				checkNoTalk(t, x, members)
			}
		}
		for i, x := range badNets(n) {
			checkNoTalk(t, x, numbersIn(1+i%7))
		}
	}
}

func checkNoTalk(t *testing.T, x impl.Net, members []int) {
	t.Helper()
	if got, taken, ok := impl.TalkAmong(x, members); ok || taken != 0 || !isZeroNet(got) {
		t.Error("TalkAmong", x, members, got, taken, ok)
	}
}
