package tests

import (
	"math"
	"slices"
	"testing"

	"loop.example/g00698/impl"
)

// A netCase is a net, a step, and what comes of it, in words, as linesOf tells;
// where lines are noAnswer, the step can't be done.
type netCase struct {
	name  string
	x     impl.Net
	s     impl.Step
	lines []string
}

func checkNetSteps(t *testing.T, cases []netCase) {
	t.Helper()
	for _, c := range cases {
		if slices.Equal(c.lines, noAnswer) {
			checkNoStep(t, c.name, c.x, c.s)
			continue
		}
		got, ok := impl.StepNet(c.x, c.s)
		if !ok || !slices.Equal(linesOf(got), c.lines) || !impl.GoodNet(got) {
			t.Errorf("%s: %v\n%q, %v, not\n%q", c.name, c.s, linesOf(got), ok, c.lines)
		}
	}
}

// checkNoStep reports a step that is done, and what changes although it isn't.
func checkNoStep(t *testing.T, name string, x impl.Net, s impl.Step) {
	t.Helper()
	before := cloneNet(x)
	if got, ok := impl.StepNet(x, s); ok || !isZeroNet(got) {
		t.Errorf("%s: %v of %v: %v, %v", name, s, x, got, ok)
	}
	if !sameNet(x, before) {
		t.Errorf("%s: %v: the net became %v, was %v", name, s, x, before)
	}
}

// idle is a message to 0, of which nothing comes where 0 leads nothing; by its
// Ballot one is known from another.
func idle(n, ballot int) impl.Msg {
	return msg(impl.MsAccOk, 1, 0, 0, impl.MaxRow, ballot, impl.Cmd{}, emptyRow(n).Attr)
}

// idleBag is count messages with the Ballots from 0 on.
func idleBag(n, count int) []impl.Msg {
	var bag []impl.Msg
	for ballot := range count {
		bag = append(bag, idle(n, ballot))
	}
	return bag
}

func ballotsIn(bag []impl.Msg) []int {
	var ballots []int
	for _, m := range bag {
		ballots = append(ballots, m.Ballot)
	}
	return ballots
}

// netWith is a net in which replica me is r, and nothing else is done.
func netWith(r impl.Replica) impl.Net {
	x := emptyNet(r.Table.N)
	x.Reps[r.Me] = r
	return x
}

func TestStepOfPlacesInTheBag(t *testing.T) {
	for _, n := range groups {
		for _, count := range []int{1, 2, 3, 7, 79, 80} {
			x := emptyNet(n)
			x.Bag = idleBag(n, count)
			all := numbersBelow(count)
			for _, at := range []int{0, count / 2, count - 1} {
				left := slices.Delete(slices.Clone(all), at, at+1)
				checkBallots(t, x, stepAt(impl.NtTake, at), left)
				checkBallots(t, x, stepAt(impl.NtLose, at), left)
				if count < impl.MaxBag {
					checkBallots(t, x, stepAt(impl.NtTwice, at), append(slices.Clone(all), at))
				} else {
					checkNoStep(t, "a full bag", x, stepAt(impl.NtTwice, at))
				}
			}
			checkNoPlaces(t, x, count)
		}
		checkNoPlaces(t, emptyNet(n), 0)
	}
}

// checkBallots reports where a step changes more of a net than its bag, or has
// not messages with these Ballots there then.
func checkBallots(t *testing.T, x impl.Net, s impl.Step, want []int) {
	t.Helper()
	got, ok := impl.StepNet(x, s)
	if !ok || !slices.Equal(ballotsIn(got.Bag), want) {
		t.Error(s, ballotsIn(got.Bag), ok, "not", want)
	}
	got.Bag = x.Bag
	if !sameNet(got, x) {
		t.Error(s, "more became another:", got, "was", x)
	}
}

func checkNoPlaces(t *testing.T, x impl.Net, count int) {
	t.Helper()
	for _, kind := range []int{impl.NtTake, impl.NtLose, impl.NtTwice} {
		for _, at := range []int{math.MinInt, -count, -1, count, count + 1, 80, 81, 1 << 32, math.MaxInt} {
			if !isBelow(count, at) {
				checkNoStep(t, "no message", x, stepAt(kind, at))
			}
		}
	}
}

// A sending is a step of the last message of a bag, where it is of one at all,
// that takes leaves messages out of the bag and puts sent into it.
type sending struct {
	name         string
	x            impl.Net
	s            impl.Step
	leaves, sent int
}

func sendings(n int) []sending {
	at, a, b := instance{0, 1}, attr(1, make([]int, n)...), attr(2, make([]int, n)...)
	none := emptyRow(n).Attr
	pre, com := row(impl.RwPre, 0, 0, moved, a), row(impl.RwCom, 0, 0, moved, a)
	leading := func(r impl.Row, same bool, who int) impl.Net {
		return netWith(replica(0, table(n, []impl.Row{r}), preLead(at, 0, moved, a, a, same, numbersBelow(who)...)))
	}
	voting := func(r impl.Row) impl.Net { return netWith(replica(1, table(n, []impl.Row{r}))) }
	taking := func(name string, x impl.Net, m impl.Msg, sent int) sending {
		x.Bag = []impl.Msg{m}
		return sending{name, x, stepAt(impl.NtTake, 0), 1, sent}
	}
	from := func(kind, from, to int, c impl.Cmd, a impl.Attr) impl.Msg {
		return msg(kind, from, to, 0, 1, 0, c, cloneAttr(a))
	}
	accepted := netWith(replica(0, table(n, []impl.Row{pre}), accLead(at, 0, moved, a, numbersBelow(n/2)...)))
	empty := []impl.Row{promised(n, 8), promised(n, 8), promised(n, 8)}[:n/2]
	preparing := netWith(replica(0, table(n, []impl.Row{promised(n, 8)}), prepLead(at, 8, empty, numbersBelow(n/2)...)))
	told := msg(impl.MsPrepOk, n-1, 0, 0, 1, 8, impl.Cmd{}, none)
	all := []sending{
		{"submit", emptyNet(n), submitAt(n-1, moved), 0, n - 1},
		{"recover", emptyNet(n), stepOf(impl.NtRecover, 1, n-1, 6), 0, n - 1},
		{"hurry", leading(pre, true, n/2+1), stepOf(impl.NtHurry, 0, 0, 1), 0, n - 1},
		{"hurry, but too late", leading(promised(n, 9), true, n/2+1), stepOf(impl.NtHurry, 0, 0, 1), 0, 0},
		{"crash", leading(pre, true, 1), stepAt(impl.NtCrash, 0), 0, 0},
		taking("pre", emptyNet(n), from(impl.MsPre, 0, 1, moved, a), 1),
		taking("pre, but too late", voting(promised(n, 9)), from(impl.MsPre, 0, 1, moved, a), 0),
		taking("pre of what is committed", voting(com), from(impl.MsPre, 0, 1, moved, a), 1),
		taking("the last preok", leading(pre, true, n-1), from(impl.MsPreOk, n-1, 0, impl.Cmd{}, a), n-1),
		taking("not the last preok", leading(pre, true, n-2), from(impl.MsPreOk, n-1, 0, impl.Cmd{}, a), 0),
		taking("preok that is not the same", leading(pre, true, n-2), from(impl.MsPreOk, n-1, 0, impl.Cmd{}, b), []int{3: 2, 5: 4}[n]),
		taking("acc", emptyNet(n), from(impl.MsAcc, 0, 1, moved, a), 1),
		taking("accok of a majority", accepted, from(impl.MsAccOk, n-1, 0, impl.Cmd{}, none), n-1),
		taking("com", emptyNet(n), from(impl.MsCom, 0, 1, moved, a), 0),
		taking("prep", emptyNet(n), msg(impl.MsPrep, 0, 1, 0, 1, 8, impl.Cmd{}, none), 1),
		taking("prepok of a majority", preparing, told, n-1),
	}
	lost := emptyNet(n)
	lost.Bag = []impl.Msg{from(impl.MsPre, 0, 1, moved, a)}
	doubled := cloneNet(lost)
	return append(all, sending{"lose", lost, stepAt(impl.NtLose, 0), 1, 0}, sending{"twice", doubled, stepAt(impl.NtTwice, 0), 0, 1})
}

// TestStepFits fills the bag ahead of what each step is of.
func TestStepFits(t *testing.T) {
	for _, n := range groups {
		for _, c := range sendings(n) {
			isOfMsg := len(c.x.Bag)
			for count := isOfMsg; count <= impl.MaxBag; count++ {
				x, s := cloneNet(c.x), c.s
				x.Bag = append(idleBag(n, count-isOfMsg), x.Bag...)
				s.At += count - isOfMsg
				if isOfMsg == 0 {
					s.At = c.s.At
				}
				want := count - c.leaves + c.sent
				if want > impl.MaxBag {
					checkNoStep(t, c.name+" of a full bag", x, s)
					continue
				}
				got, ok := impl.StepNet(x, s)
				if !ok || len(got.Bag) != want || !impl.GoodNet(got) {
					t.Error(c.name, "with", count, "in the bag:", len(got.Bag), ok, "not", want)
				}
				if plain, _ := plainStep(x, s); !sameNet(got, plain) {
					t.Error(c.name, "with", count, "in the bag:", got, "not", plain)
				}
			}
		}
	}
}

func TestStepSubmit(t *testing.T) {
	com := row(impl.RwCom, 9, 9, asked, attr(4, 0, 0, 2))
	rows := netWith(replica(1, table(3, []impl.Row{com}, []impl.Row{promised(3, 9)})))
	rows.Asked = []impl.Asked{askedOf(0, 1, asked)}
	full := netWith(replica(1, table(3, nil, slices.Repeat([]impl.Row{emptyRow(3)}, 6))))
	fifth := netWith(replica(1, table(3, nil, slices.Repeat([]impl.Row{emptyRow(3)}, 5))))
	seq := netWith(replica(1, table(3, []impl.Row{row(impl.RwPre, 0, 0, asked, attr(999, 0, 0, 0))})))
	of := func(asked ...impl.Asked) impl.Net {
		x := emptyNet(3)
		x.Asked = asked
		return x
	}
	empty := "-|0:0,0,0"
	cases := []netCase{
		{"the first", emptyNet(3), submitAt(1, moved), []string{
			"at 1: 1.1 pre 0 0|move 7 0 2 30|1:0,0,0", "at 1: 1.1 leads pre 0|move 7 0 2 30|1:0,0,0|1:0,0,0|true|[1]|",
			"bag: pre 1 0 1 1 0 0 0|move 7 0 2 30|1:0,0,0", "bag: pre 1 2 1 1 0 0 0|move 7 0 2 30|1:0,0,0", "asked 1.1: move 7 0 2 30"}},
		{"behind a row", rows, submitAt(1, moved), []string{
			"at 1: 0.1 com 9 9|read 8 2|4:0,0,2", "at 1: 1.1 none 9 0|" + empty, "at 1: 1.2 pre 0 0|move 7 0 2 30|5:1,0,0", "at 1: 1.2 leads pre 0|move 7 0 2 30|5:1,0,0|5:1,0,0|true|[1]|",
			"bag: pre 1 0 1 2 0 0 0|move 7 0 2 30|5:1,0,0", "bag: pre 1 2 1 2 0 0 0|move 7 0 2 30|5:1,0,0", "asked 0.1: read 8 2", "asked 1.2: move 7 0 2 30"}},
		{"the last row", fifth, submitAt(1, other), []string{
			"at 1: 1.1 none 0 0|" + empty, "at 1: 1.2 none 0 0|" + empty, "at 1: 1.3 none 0 0|" + empty, "at 1: 1.4 none 0 0|" + empty, "at 1: 1.5 none 0 0|" + empty,
			"at 1: 1.6 pre 0 0|read 9 1|1:0,0,0", "at 1: 1.6 leads pre 0|read 9 1|1:0,0,0|1:0,0,0|true|[1]|",
			"bag: pre 1 0 1 6 0 0 0|read 9 1|1:0,0,0", "bag: pre 1 2 1 6 0 0 0|read 9 1|1:0,0,0", "asked 1.6: read 9 1"}},
		{"MaxRow rows", full, submitAt(1, moved), noAnswer},
		{"no Seq is left", seq, submitAt(1, moved), noAnswer},
		{"asked already", of(askedOf(1, 1, asked)), submitAt(1, moved), noAnswer},
		{"asked already, the same", of(askedOf(1, 1, moved)), submitAt(1, moved), noAnswer},
		{"asked already, the last", of(askedOf(0, 1, moved), askedOf(1, 2, moved), askedOf(1, 1, asked)), submitAt(1, moved), noAnswer},
		{"asked already, the first", of(askedOf(1, 1, asked), askedOf(0, 1, moved), askedOf(1, 2, moved)), submitAt(1, moved), noAnswer},
		{"others asked", of(askedOf(1, 2, asked), askedOf(0, 1, moved), askedOf(2, 1, moved)), submitAt(1, moved), []string{
			"at 1: 1.1 pre 0 0|move 7 0 2 30|1:0,0,0", "at 1: 1.1 leads pre 0|move 7 0 2 30|1:0,0,0|1:0,0,0|true|[1]|",
			"bag: pre 1 0 1 1 0 0 0|move 7 0 2 30|1:0,0,0", "bag: pre 1 2 1 1 0 0 0|move 7 0 2 30|1:0,0,0",
			"asked 1.2: read 8 2", "asked 0.1: move 7 0 2 30", "asked 2.1: move 7 0 2 30", "asked 1.1: move 7 0 2 30"}},
	}
	for _, n := range groups {
		for _, bad := range append(badCmds(), impl.Cmd{}) {
			for at := range n {
				cases = append(cases, netCase{"no command", emptyNet(n), submitAt(at, bad), noAnswer})
			}
		}
	}
	checkNetSteps(t, cases)
}

// TestStepSubmitAfterCrash is of replicas that know, or know not, what they
// were asked ahead of a crash.
func TestStepSubmitAfterCrash(t *testing.T) {
	x := play(t, 3, submitAt(0, moved), stepAt(impl.NtCrash, 0))
	gone := cloneNet(x)
	gone.Reps[0] = replica(0, table(3))
	gone, ok := impl.StepNet(gone, stepAt(impl.NtCrash, 0))
	if !ok {
		t.Error("not crashed:", gone)
	}
	checkNetSteps(t, []netCase{
		{"its row is there", x, submitAt(0, asked), []string{
			"at 0: 0.1 pre 0 0|move 7 0 2 30|1:0,0,0", "at 0: 0.2 pre 0 0|read 8 2|2:1,0,0", "at 0: 0.2 leads pre 0|read 8 2|2:1,0,0|2:1,0,0|true|[0]|",
			"bag: pre 0 1 0 1 0 0 0|move 7 0 2 30|1:0,0,0", "bag: pre 0 2 0 1 0 0 0|move 7 0 2 30|1:0,0,0",
			"bag: pre 0 1 0 2 0 0 0|read 8 2|2:1,0,0", "bag: pre 0 2 0 2 0 0 0|read 8 2|2:1,0,0", "asked 0.1: move 7 0 2 30", "asked 0.2: read 8 2"}},
		{"its row is gone", gone, submitAt(0, asked), noAnswer},
		{"its row is gone, but not another's", gone, submitAt(1, other), []string{
			"at 1: 1.1 pre 0 0|read 9 1|1:0,0,0", "at 1: 1.1 leads pre 0|read 9 1|1:0,0,0|1:0,0,0|true|[1]|",
			"bag: pre 0 1 0 1 0 0 0|move 7 0 2 30|1:0,0,0", "bag: pre 0 2 0 1 0 0 0|move 7 0 2 30|1:0,0,0",
			"bag: pre 1 0 1 1 0 0 0|read 9 1|1:0,0,0", "bag: pre 1 2 1 1 0 0 0|read 9 1|1:0,0,0", "asked 0.1: move 7 0 2 30", "asked 1.1: read 9 1"}},
	})
}

func TestStepTake(t *testing.T) {
	a := attr(1, 0, 0, 0)
	of := func(r impl.Replica, bag ...impl.Msg) impl.Net {
		x := netWith(r)
		x.Bag = bag
		return x
	}
	pre := msg(impl.MsPre, 0, 1, 0, 1, 0, moved, a)
	com := msg(impl.MsCom, 2, 1, 0, 1, 0, moved, a)
	late := of(replica(1, table(3, []impl.Row{row(impl.RwPre, 0, 0, read(2, 0), attr(999, 0, 0, 0))}, nil)), msg(impl.MsPre, 2, 1, 2, 1, 0, moved, a))
	voted := []string{"at 1: 0.1 pre 0 0|move 7 0 2 30|1:0,0,0"}
	preOk, idles := "bag: preok 1 0 0 1 0 0 0|-|1:0,0,0", []string{"bag: accok 1 0 0 6 0 0 0|-|0:0,0,0", "bag: accok 1 0 0 6 1 0 0|-|0:0,0,0"}
	checkNetSteps(t, []netCase{
		{"the only one", of(replica(1, table(3)), pre), stepAt(impl.NtTake, 0), append(voted, preOk)},
		{"the first", of(replica(1, table(3)), pre, idle(3, 0), idle(3, 1)), stepAt(impl.NtTake, 0), slices.Concat(voted, idles, []string{preOk})},
		{"a middle one", of(replica(1, table(3)), idle(3, 0), pre, idle(3, 1)), stepAt(impl.NtTake, 1), slices.Concat(voted, idles, []string{preOk})},
		{"the last", of(replica(1, table(3)), idle(3, 0), idle(3, 1), pre), stepAt(impl.NtTake, 2), slices.Concat(voted, idles, []string{preOk})},
		{"one that was doubled", of(replica(1, table(3)), pre, pre), stepAt(impl.NtTake, 1), append(voted, "bag: pre 0 1 0 1 0 0 0|move 7 0 2 30|1:0,0,0", preOk)},
		{"one by which nothing is sent", of(replica(1, table(3)), com), stepAt(impl.NtTake, 0), []string{"at 1: 0.1 com 0 0|move 7 0 2 30|1:0,0,0"}},
		{"one that comes too late", of(replica(1, table(3, []impl.Row{promised(3, 9)})), pre), stepAt(impl.NtTake, 0), []string{"at 1: 0.1 none 9 0|-|0:0,0,0"}},
		{"no Seq is left", late, stepAt(impl.NtTake, 0), noAnswer},
		{"no Seq is left, but it is lost", late, stepAt(impl.NtLose, 0), []string{"at 1: 0.1 pre 0 0|read 2 0|999:0,0,0"}},
	})
}

func TestStepRecoverAndHurry(t *testing.T) {
	at, a := instance{0, 1}, attr(1, 0, 0, 0)
	pre, com := row(impl.RwPre, 0, 0, moved, a), row(impl.RwCom, 0, 0, moved, a)
	lead := preLead(at, 0, moved, a, a, true, 0, 1)
	leading := netWith(replica(0, table(3, []impl.Row{pre}), lead))
	alone := netWith(replica(0, table(3, []impl.Row{pre}), preLead(at, 0, moved, a, a, true, 0)))
	known := netWith(replica(0, table(3, []impl.Row{com}), lead))
	last := netWith(replica(0, table(3, []impl.Row{promised(3, 9992)})))
	prepared := func(row, seen string) []string {
		return []string{"at 0: 0.1 " + row, "at 0: 0.1 leads prep 8|-|0:0,0,0|0:0,0,0|false|[0]|" + seen, "bag: prep 0 1 0 1 8 0 0|-|0:0,0,0", "bag: prep 0 2 0 1 8 0 0|-|0:0,0,0"}
	}
	cases := []netCase{
		{"recover", emptyNet(3), stepOf(impl.NtRecover, 0, 0, 1), prepared("none 8 0|-|0:0,0,0", "none 0 0|-|0:0,0,0")},
		{"recover in place of a lead", leading, stepOf(impl.NtRecover, 0, 0, 1), prepared("pre 8 0|move 7 0 2 30|1:0,0,0", "pre 0 0|move 7 0 2 30|1:0,0,0")},
		{"recover another's", emptyNet(3), stepOf(impl.NtRecover, 2, 1, 2), []string{
			"at 2: 1.1 none 0 0|-|0:0,0,0", "at 2: 1.2 none 10 0|-|0:0,0,0", "at 2: 1.2 leads prep 10|-|0:0,0,0|0:0,0,0|false|[2]|none 0 0|-|0:0,0,0",
			"bag: prep 2 0 1 2 10 0 0|-|0:0,0,0", "bag: prep 2 1 1 2 10 0 0|-|0:0,0,0"}},
		{"recover what is committed", known, stepOf(impl.NtRecover, 0, 0, 1), noAnswer},
		{"recover what is committed elsewhere", known, stepOf(impl.NtRecover, 2, 0, 1), []string{
			"at 0: 0.1 com 0 0|move 7 0 2 30|1:0,0,0", "at 0: 0.1 leads pre 0|move 7 0 2 30|1:0,0,0|1:0,0,0|true|[0 1]|",
			"at 2: 0.1 none 10 0|-|0:0,0,0", "at 2: 0.1 leads prep 10|-|0:0,0,0|0:0,0,0|false|[2]|none 0 0|-|0:0,0,0", "bag: prep 2 0 0 1 10 0 0|-|0:0,0,0", "bag: prep 2 1 0 1 10 0 0|-|0:0,0,0"}},
		{"recover without a Ballot", last, stepOf(impl.NtRecover, 0, 0, 1), noAnswer},
		{"hurry", leading, stepOf(impl.NtHurry, 0, 0, 1), []string{
			"at 0: 0.1 acc 0 0|move 7 0 2 30|1:0,0,0", "at 0: 0.1 leads acc 0|move 7 0 2 30|1:0,0,0|1:0,0,0|false|[0]|",
			"bag: acc 0 1 0 1 0 0 0|move 7 0 2 30|1:0,0,0", "bag: acc 0 2 0 1 0 0 0|move 7 0 2 30|1:0,0,0"}},
		{"hurry what is committed", known, stepOf(impl.NtHurry, 0, 0, 1), noAnswer},
		{"hurry without a majority", alone, stepOf(impl.NtHurry, 0, 0, 1), noAnswer},
		{"hurry without a lead", netWith(replica(0, table(3, []impl.Row{pre}))), stepOf(impl.NtHurry, 0, 0, 1), noAnswer},
		{"hurry another's lead", leading, stepOf(impl.NtHurry, 1, 0, 1), noAnswer},
		{"hurry another instance", leading, stepOf(impl.NtHurry, 0, 0, 2), noAnswer},
	}
	for _, n := range groups {
		for _, bad := range badInstances(n) {
			for _, kind := range []int{impl.NtRecover, impl.NtHurry} {
				cases = append(cases, netCase{"no instance", emptyNet(n), stepOf(kind, 0, bad[0], bad[1]), noAnswer})
				cases = append(cases, netCase{"no instance", fullNet(n), stepOf(kind, 1, bad[0], bad[1]), noAnswer})
			}
		}
	}
	checkNetSteps(t, cases)
}

func TestStepCrash(t *testing.T) {
	for _, n := range groups {
		for _, x := range append(someNets(n, 20), goodNets(n)[:20]...) {
			for at := range n {
				want := cloneNet(x)
				want.Reps[at].Leads = nil
				if got, ok := impl.StepNet(x, stepAt(impl.NtCrash, at)); !ok || !sameNet(got, want) {
					t.Error("crash", at, x, got, ok)
				}
				if got, ok := impl.StepNet(want, stepAt(impl.NtCrash, at)); !ok || !sameNet(got, want) {
					t.Error("crash without leads", at, want, got, ok)
				}
			}
		}
	}
}

// doable is a net, and of each kind a step of it that can be done.
func doable(n int) (impl.Net, []impl.Step) {
	x := netWith(replica(1, table(n), preLead(instance{1, 2}, 0, moved, attr(1, make([]int, n)...), attr(1, make([]int, n)...), true, numbersBelow(n)...)))
	x.Bag = idleBag(n, 3)
	return x, []impl.Step{
		submitAt(1, moved), stepAt(impl.NtTake, 1), stepAt(impl.NtLose, 1), stepAt(impl.NtTwice, 1),
		stepOf(impl.NtRecover, 1, 1, 2), stepOf(impl.NtHurry, 1, 1, 2), stepAt(impl.NtCrash, 1),
	}
}

func TestStepOfUnnamedFields(t *testing.T) {
	for _, n := range groups {
		x, steps := doable(n)
		for i, s := range steps {
			if got, ok := impl.StepNet(x, s); !ok || !impl.GoodNet(got) || s.Kind != netKinds[i] {
				t.Error("not done:", s, got)
			}
			isOfInstance := s.Kind == impl.NtRecover || s.Kind == impl.NtHurry
			for _, number := range []int{math.MinInt, -1, 1, 2, 3, 6, 1 << 32, math.MaxInt} {
				if !isOfInstance {
					of := s
					of.Rep = number
					checkNoStep(t, "a Rep", x, of)
					of.No = number
					checkNoStep(t, "an instance", x, of)
					of.Rep = 0
					checkNoStep(t, "a No", x, of)
				}
			}
			for _, c := range append(badCmds(), someCmds([]int{1, 999}, []int{1, 1000})[1:]...) {
				if s.Kind != impl.NtSubmit {
					of := s
					of.Cmd = c
					checkNoStep(t, "a command", x, of)
				}
			}
		}
	}
}

func TestStepOfNoKind(t *testing.T) {
	for _, n := range groups {
		x, steps := doable(n)
		for _, s := range append(steps, impl.Step{}) {
			for _, kind := range []int{math.MinInt, -7, -1, 0, 8, 9, 1 << 32, s.Kind + 1<<32, math.MaxInt} {
				s.Kind = kind
				checkNoStep(t, "no kind", x, s)
			}
		}
	}
}

func TestStepOfNoReplica(t *testing.T) {
	for _, n := range groups {
		x, steps := doable(n)
		// In an empty bag no message has any of these numbers, either.
		x.Bag = nil
		for _, s := range steps {
			for _, at := range []int{math.MinInt, -n, -1, n, n + 1, 79, 80, 1 << 32, 1 + 1<<32, math.MaxInt} {
				s.At = at
				checkNoStep(t, "no replica", x, s)
			}
		}
	}
}

func TestStepInvalid(t *testing.T) {
	for _, n := range groups {
		_, steps := doable(n)
		for i, x := range badNets(n) {
			checkNoStep(t, "a bad net", x, steps[i%len(steps)])
			checkNoStep(t, "a bad net", x, stepAt(impl.NtCrash, i%n))
			if got, count, ok := impl.DeliverAll(x); ok || count != 0 || !isZeroNet(got) {
				t.Error("DeliverAll", x, got, count, ok)
			}
		}
	}
}
