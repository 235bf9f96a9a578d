package tests

import (
	"slices"
	"testing"

	"loop.example/g00698/impl"
)

// play is a net in which all of these steps were done.
func play(t *testing.T, n int, steps ...impl.Step) impl.Net {
	t.Helper()
	x, done, ok := impl.PlayNet(n, steps)
	if !ok || !slices.Equal(done, slices.Repeat([]bool{true}, len(steps))) {
		t.Fatal("not all were done:", n, steps, done, ok)
	}
	return x
}

// A playCase is steps of a group and what comes of them, in words, as linesOf
// tells. Behind refused are the numbers of those that can't be done.
type playCase struct {
	name    string
	steps   []impl.Step
	refused []int
	lines   []string
}

func checkPlays(t *testing.T, n int, cases []playCase) {
	t.Helper()
	for _, c := range cases {
		got, done, ok := impl.PlayNet(n, c.steps)
		if !ok || !slices.Equal(linesOf(got), c.lines) || !impl.GoodNet(got) {
			t.Errorf("%s:\n%q, %v, not\n%q", c.name, linesOf(got), ok, c.lines)
		}
		x := emptyNet(n)
		for i, s := range c.steps {
			y, isDone := impl.StepNet(x, s)
			if isDone {
				x = y
			}
			if isDone == slices.Contains(c.refused, i) || i >= len(done) || done[i] != isDone {
				t.Errorf("%s: step %d: %v, among %v", c.name, i, isDone, done)
			}
		}
		if len(done) != len(c.steps) || !sameNet(x, got) {
			t.Errorf("%s: step by step:\n%q, not\n%q", c.name, linesOf(x), linesOf(got))
		}
	}
}

// drop is the lines but those of these numbers, with more behind them.
func drop(lines []string, numbers []int, more ...string) []string {
	var left []string
	for i, line := range lines {
		if !slices.Contains(numbers, i) {
			left = append(left, line)
		}
	}
	return append(left, more...)
}

func TestPlayOfOneCommand(t *testing.T) {
	submit, take, last := submitAt(0, moved), stepAt(impl.NtTake, 0), stepAt(impl.NtTake, 1)
	const one, leads1, leads2 = "|move 7 0 2 30|1:0,0,0", "at 0: 0.1 leads pre 0|move 7 0 2 30|1:0,0,0|1:0,0,0|true|[0]|", "at 0: 0.1 leads pre 0|move 7 0 2 30|1:0,0,0|1:0,0,0|true|[0 2]|"
	const pre0, pre1, pre2 = "at 0: 0.1 pre 0 0" + one, "at 1: 0.1 pre 0 0" + one, "at 2: 0.1 pre 0 0" + one
	const com0, com1, com2 = "at 0: 0.1 com 0 0" + one, "at 1: 0.1 com 0 0" + one, "at 2: 0.1 com 0 0" + one
	const sent1, sent2, ok1, ok2 = "bag: pre 0 1 0 1 0 0 0" + one, "bag: pre 0 2 0 1 0 0 0" + one, "bag: preok 1 0 0 1 0 0 0|-|1:0,0,0", "bag: preok 2 0 0 1 0 0 0|-|1:0,0,0"
	const told1, told2, was = "bag: com 0 1 0 1 0 0 0" + one, "bag: com 0 2 0 1 0 0 0" + one, "asked 0.1: move 7 0 2 30"
	checkPlays(t, 3, []playCase{
		{"nothing", nil, nil, nil},
		{"submit", []impl.Step{submit}, nil, []string{pre0, leads1, sent1, sent2, was}},
		{"one vote", []impl.Step{submit, take}, nil, []string{pre0, leads1, pre1, sent2, ok1, was}},
		{"the other vote", []impl.Step{submit, last}, nil, []string{pre0, leads1, pre2, sent1, ok2, was}},
		{"both vote", []impl.Step{submit, take, take}, nil, []string{pre0, leads1, pre1, pre2, ok1, ok2, was}},
		{"one is told, the last first", []impl.Step{submit, take, take, last}, nil, []string{pre0, leads2, pre1, pre2, ok1, was}},
		{"settled", []impl.Step{submit, take, take, last, take}, nil, []string{com0, pre1, pre2, told1, told2, was}},
		{"one knows", []impl.Step{submit, take, take, last, take, take}, nil, []string{com0, com1, pre2, told2, was}},
		{"all know", []impl.Step{submit, take, take, last, take, take, take}, nil, []string{com0, com1, com2, was}},
		{"and no more", []impl.Step{submit, take, take, last, take, take, take, take}, []int{7}, []string{com0, com1, com2, was}},
		{"one is lost", []impl.Step{submit, stepAt(impl.NtLose, 0)}, nil, []string{pre0, leads1, sent2, was}},
		{"the other is lost", []impl.Step{submit, stepAt(impl.NtLose, 1)}, nil, []string{pre0, leads1, sent1, was}},
		{"all are lost", []impl.Step{submit, stepAt(impl.NtLose, 0), stepAt(impl.NtLose, 0), stepAt(impl.NtLose, 0)}, []int{3}, []string{pre0, leads1, was}},
		{"one comes twice", []impl.Step{submit, stepAt(impl.NtTwice, 0)}, nil, []string{pre0, leads1, sent1, sent2, sent1, was}},
		{"and is taken twice", []impl.Step{submit, stepAt(impl.NtTwice, 0), take, last}, nil, []string{pre0, leads1, pre1, sent2, ok1, ok1, was}},
		{"and counts once", []impl.Step{submit, stepAt(impl.NtTwice, 0), take, last, last, last}, nil,
			[]string{pre0, "at 0: 0.1 leads pre 0|move 7 0 2 30|1:0,0,0|1:0,0,0|true|[0 1]|", pre1, sent2, was}},
		{"forgotten", []impl.Step{submit, stepAt(impl.NtCrash, 0)}, nil, []string{pre0, sent1, sent2, was}},
		{"forgotten, what is told then", []impl.Step{submit, stepAt(impl.NtCrash, 0), take, last}, nil, []string{pre0, pre1, sent2, was}},
		{"refused ones change nothing", []impl.Step{
			take, submitAt(3, moved), submitAt(0, impl.Cmd{}), submit, stepAt(impl.NtTake, 2), stepOf(impl.NtHurry, 0, 0, 1), stepAt(impl.NtLose, -1),
			take, stepAt(impl.NtTwice, 2), stepOf(impl.NtRecover, 0, 0, 7), stepAt(impl.NtCrash, 3), take, {}, last, {Kind: 8}, take, stepOf(impl.NtRecover, 0, 0, 1),
		}, []int{0, 1, 2, 4, 5, 6, 8, 9, 10, 12, 14, 16}, []string{com0, pre1, pre2, told1, told2, was}},
	})
}

func TestPlayOfHurryAndRecovery(t *testing.T) {
	const one, was = "|move 7 0 2 30|1:0,0,0", "asked 0.1: move 7 0 2 30"
	hurried := []impl.Step{submitAt(0, moved), stepAt(impl.NtTake, 0), stepAt(impl.NtTake, 1), stepOf(impl.NtHurry, 0, 0, 1)}
	afterHurry := []string{
		"at 0: 0.1 acc 0 0" + one, "at 0: 0.1 leads acc 0|move 7 0 2 30|1:0,0,0|1:0,0,0|false|[0]|", "at 1: 0.1 pre 0 0" + one,
		"bag: pre 0 2 0 1 0 0 0" + one, "bag: acc 0 1 0 1 0 0 0" + one, "bag: acc 0 2 0 1 0 0 0" + one, was,
	}
	accepted := append(slices.Clone(hurried), stepAt(impl.NtTake, 1), stepAt(impl.NtTake, 2))
	recovered := []impl.Step{submitAt(0, moved), stepAt(impl.NtTake, 0), stepAt(impl.NtCrash, 0), stepOf(impl.NtRecover, 1, 0, 1)}
	const own, prep0, prep2 = "at 0: 0.1 pre 0 0" + one, "bag: prep 1 0 0 1 9 0 0|-|0:0,0,0", "bag: prep 1 2 0 1 9 0 0|-|0:0,0,0"
	const leads, seen = "at 1: 0.1 leads prep 9|-|0:0,0,0|0:0,0,0|false|[1]|pre 0 0" + one, "at 1: 0.1 pre 9 0" + one
	prepared := append(slices.Clone(recovered), stepAt(impl.NtTake, 3))
	none := append(slices.Clone(prepared), stepAt(impl.NtTake, 3))
	voted := append(slices.Clone(recovered), stepAt(impl.NtTake, 0), stepAt(impl.NtTake, 2))
	const preOk = "bag: preok 1 0 0 1 0 0 0|-|1:0,0,0"
	checkPlays(t, 3, []playCase{
		{"hurried", hurried, nil, afterHurry},
		{"accepted", accepted, nil, []string{
			"at 0: 0.1 com 0 0" + one, "at 1: 0.1 acc 0 0" + one, "bag: pre 0 2 0 1 0 0 0" + one, "bag: acc 0 2 0 1 0 0 0" + one,
			"bag: com 0 1 0 1 0 0 0" + one, "bag: com 0 2 0 1 0 0 0" + one, was}},
		{"recovered", recovered, nil, []string{own, seen, leads, "bag: pre 0 2 0 1 0 0 0" + one, preOk, prep0, prep2, was}},
		{"prepared", prepared, nil, []string{own, seen, leads, "at 2: 0.1 none 9 0|-|0:0,0,0", "bag: pre 0 2 0 1 0 0 0" + one, preOk, prep0, "bag: prepok 2 1 0 1 9 0 0|-|0:0,0,0", was}},
		{"again", none, nil, []string{
			own, "at 1: 0.1 pre 9 9" + one, "at 1: 0.1 leads pre 9|move 7 0 2 30|1:0,0,0|1:0,0,0|true|[1]|", "at 2: 0.1 none 9 0|-|0:0,0,0",
			"bag: pre 0 2 0 1 0 0 0" + one, preOk, prep0, "bag: pre 1 0 0 1 9 0 0" + one, "bag: pre 1 2 0 1 9 0 0" + one, was}},
		{"another vote is told", voted, nil, []string{own, seen, leads, "at 2: 0.1 pre 9 0" + one, preOk, prep0, "bag: preok 2 0 0 1 0 0 0|-|1:0,0,0", "bag: prepok 2 1 0 1 9 0 1" + one, was}},
		{"both votes are the same", append(slices.Clone(voted), stepAt(impl.NtTake, 3)), nil, []string{
			own, "at 1: 0.1 acc 9 9" + one, "at 1: 0.1 leads acc 9|move 7 0 2 30|1:0,0,0|1:0,0,0|false|[1]|", "at 2: 0.1 pre 9 0" + one,
			preOk, prep0, "bag: preok 2 0 0 1 0 0 0|-|1:0,0,0", "bag: acc 1 0 0 1 9 0 0" + one, "bag: acc 1 2 0 1 9 0 0" + one, was}},
	})
}

func TestPlayOfFive(t *testing.T) {
	const one, was = "|read 8 2|1:0,0,0,0,0", "asked 4.1: read 8 2"
	take := stepAt(impl.NtTake, 0)
	sent := []string{"bag: pre 4 0 4 1 0 0 0" + one, "bag: pre 4 1 4 1 0 0 0" + one, "bag: pre 4 2 4 1 0 0 0" + one, "bag: pre 4 3 4 1 0 0 0" + one}
	voted := []string{"at 0: 4.1 pre 0 0" + one, "at 1: 4.1 pre 0 0" + one, "at 2: 4.1 pre 0 0" + one, "at 3: 4.1 pre 0 0" + one}
	told := []string{"bag: com 4 0 4 1 0 0 0" + one, "bag: com 4 1 4 1 0 0 0" + one, "bag: com 4 2 4 1 0 0 0" + one, "bag: com 4 3 4 1 0 0 0" + one}
	steps := append([]impl.Step{submitAt(4, asked)}, slices.Repeat([]impl.Step{take}, 8)...)
	lead := func(who string) []string {
		return []string{"at 4: 4.1 pre 0 0" + one, "at 4: 4.1 leads pre 0|read 8 2|1:0,0,0,0,0|1:0,0,0,0,0|true|[" + who + "]|"}
	}
	preOk := func(from string) string { return "bag: preok " + from + " 4 4 1 0 0 0|-|1:0,0,0,0,0" }
	checkPlays(t, 5, []playCase{
		{"nothing", nil, nil, nil},
		{"submit", steps[:1], nil, slices.Concat(lead("4"), sent, []string{was})},
		{"two votes", steps[:3], nil, slices.Concat(voted[:2], lead("4"), sent[2:], []string{preOk("0"), preOk("1"), was})},
		{"three were told", steps[:8], nil, slices.Concat(voted, lead("0 1 2 4"), []string{preOk("3"), was})},
		{"settled", steps, nil, slices.Concat(voted, []string{"at 4: 4.1 com 0 0" + one}, told, []string{was})},
		{"a middle one is lost and one comes twice", []impl.Step{steps[0], stepAt(impl.NtLose, 2), stepAt(impl.NtTwice, 1)}, nil, slices.Concat(lead("4"), drop(sent, []int{2}, sent[1], was))},
	})
}

func TestPlayNetLimits(t *testing.T) {
	crash, bad := stepAt(impl.NtCrash, 1), stepAt(impl.NtLose, 0)
	for _, n := range groups {
		for _, count := range []int{0, 1, 2, 99, 100} {
			for _, s := range []impl.Step{crash, bad} {
				got, done, ok := impl.PlayNet(n, slices.Repeat([]impl.Step{s}, count))
				if !ok || !slices.Equal(done, slices.Repeat([]bool{s == crash}, count)) || !sameNet(got, emptyNet(n)) {
					t.Error("PlayNet", n, count, s, got, done, ok)
				}
			}
		}
		for _, count := range []int{101, 102, 200, 5000} {
			for _, s := range []impl.Step{crash, bad, submitAt(0, moved), {}} {
				checkNotPlayed(t, n, slices.Repeat([]impl.Step{s}, count))
			}
		}
	}
	for _, n := range noGroups {
		for _, count := range []int{0, 1, 100, 101} {
			checkNotPlayed(t, n, slices.Repeat([]impl.Step{submitAt(0, moved)}, count))
		}
	}
}

func checkNotPlayed(t *testing.T, n int, steps []impl.Step) {
	t.Helper()
	if got, done, ok := impl.PlayNet(n, steps); ok || len(done) != 0 || !isZeroNet(got) {
		t.Error("PlayNet", n, len(steps), got, done, ok)
	}
}

// TestPlayNetOfManySteps is of as many commands as a group may be asked, and of
// as many steps: one half of what is sent is lost, some is taken.
func TestPlayNetOfManySteps(t *testing.T) {
	for _, n := range groups {
		var steps []impl.Step
		for no := range impl.MaxRow {
			for rep := range n {
				steps = append(steps, submitAt(rep, read(1+no, rep%4)), stepAt(impl.NtLose, 0))
				if no%2 == 0 {
					steps = append(steps, stepAt(impl.NtLose, 1))
				}
			}
		}
		steps = append(steps, slices.Repeat([]impl.Step{submitAt(0, moved), stepAt(impl.NtTake, 0)}, 50)...)[:100]
		got, done, ok := impl.PlayNet(n, steps)
		want, wantDone, _ := plainPlay(n, steps)
		if !ok || !slices.Equal(done, wantDone) || !sameNet(got, want) {
			t.Error("PlayNet", n, got, done, ok, "not", want, wantDone)
		}
		if len(got.Asked) != n*impl.MaxRow {
			t.Error(len(got.Asked), "were asked, not", n*impl.MaxRow)
		}
	}
}

func checkDelivered(t *testing.T, name string, x impl.Net, count int, want impl.Net) {
	t.Helper()
	got, taken, ok := impl.DeliverAll(x)
	if !ok || taken != count || !sameNet(got, want) || !impl.GoodNet(got) {
		t.Errorf("DeliverAll, %s: %d, %v, not %d\n%q, not\n%q", name, taken, ok, count, linesOf(got), linesOf(want))
	}
}

func TestDeliverAll(t *testing.T) {
	for _, n := range groups {
		checkDelivered(t, "an empty bag", emptyNet(n), 0, emptyNet(n))
		for _, x := range someNets(n, 20) {
			x.Bag = nil
			checkDelivered(t, "an empty bag", x, 0, x)
		}
		for _, count := range []int{1, 2, 80} {
			x := emptyNet(n)
			x.Bag = idleBag(n, count)
			checkDelivered(t, "nothing comes of them", x, count, emptyNet(n))
		}
		for me := range n {
			of := row(impl.RwCom, 0, 0, moved, attr(1, make([]int, n)...))
			want := netOf(nil, nil, askedOf(me, 1, moved))
			for rep := range n {
				want.Reps = append(want.Reps, replica(rep, withRow(table(n), instance{me, 1}, of)))
			}
			checkDelivered(t, "one command", play(t, n, submitAt(me, moved)), 3*(n-1), want)
		}
	}
}

// refusing is a good net, and a message that its replica 1 can't take.
func refusing(n int) (impl.Net, impl.Msg) {
	none := make([]int, n)
	x := netWith(replica(1, table(n, []impl.Row{row(impl.RwPre, 0, 0, read(2, 0), attr(999, none...))})))
	return x, msg(impl.MsPre, 2, 1, 2, 1, 0, moved, attr(1, none...))
}

func TestDeliverAllRefused(t *testing.T) {
	for _, n := range groups {
		for _, ahead := range []int{0, 1, 5, 79} {
			x, m := refusing(n)
			want := cloneNet(x)
			x.Bag = append(idleBag(n, ahead), m)
			want.Bag = []impl.Msg{m}
			checkDelivered(t, "the last can't be taken", x, ahead, want)
			if ahead < 79 {
				x.Bag, want.Bag = append(x.Bag, idle(n, 99)), append(want.Bag, idle(n, 99))
				checkDelivered(t, "one can't be taken", x, ahead, want)
			}
		}
	}
}

// TestDeliverAllOfAFullBag is of a message for which the bag is too full, until
// enough of others have left it.
func TestDeliverAllOfAFullBag(t *testing.T) {
	for _, n := range groups {
		a := attr(1, make([]int, n)...)
		lead := preLead(instance{0, 1}, 0, moved, a, a, true, numbersBelow(n-1)...)
		m := msg(impl.MsPreOk, n-1, 0, 0, 1, 0, impl.Cmd{}, a)
		for ahead := range 6 {
			x := netWith(replica(0, table(n, []impl.Row{row(impl.RwPre, 0, 0, moved, a)}), lead))
			x.Bag = slices.Concat(idleBag(n, ahead), []impl.Msg{m}, idleBag(n, 79-ahead))
			if ahead < n-2 {
				want := cloneNet(x)
				want.Bag = want.Bag[ahead:]
				checkDelivered(t, "too full", x, ahead, want)
				continue
			}
			want := emptyNet(n)
			for rep := range want.Reps {
				want.Reps[rep] = replica(rep, table(n, []impl.Row{row(impl.RwCom, 0, 0, moved, a)}))
			}
			checkDelivered(t, "just not too full", x, 80+n-1, want)
		}
	}
}

func TestDeliverAllOfMixedNets(t *testing.T) {
	emptied, refused, most := 0, 0, 0
	for _, n := range groups {
		for _, x := range append(someNets(n, 250), goodNets(n)...) {
			want, count, _ := plainDeliver(x)
			checkDelivered(t, "mixed", x, count, want)
			most = max(most, count)
			if len(want.Bag) == 0 {
				emptied++
			} else {
				refused++
			}
		}
	}
	if emptied < 50 || refused < 50 || most < 80 {
		t.Error("bags emptied:", emptied, "refused:", refused, "most taken:", most)
	}
}
