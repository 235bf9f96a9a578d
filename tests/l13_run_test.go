package tests

import (
	"slices"
	"testing"

	"loop.example/g00698/impl"
)

// played is a net to which some drawn steps lead.
func (m *mixer) played(n int) impl.Net {
	x := emptyNet(n)
	instances, calm := 1+m.next(impl.MaxRow), m.pick(1, 2, 5, 10, 50)
	for range m.pick(10, 30, 60, 100) {
		if y, ok := impl.StepNet(x, m.calmStep(x, instances, calm)); ok {
			x = y
		}
	}
	return x
}

// leastMajorities is all majorities of as few replicas as make one.
func leastMajorities(n int) [][]int {
	var all [][]int
	for _, mask := range masksOf(n, n/2+1) {
		all = append(all, numbersIn(mask))
	}
	return all
}

// checkPromise13 reports where something stays open for members of a net, where
// that is not safe any more, or where what is not theirs changes.
func checkPromise13(t *testing.T, x impl.Net, members []int) impl.Healed {
	t.Helper()
	if is, ok := impl.IsMajority(len(x.Reps), members); !ok || !is {
		t.Error("no majority:", members)
	}
	h, ok := impl.HealNet(x, members, impl.MaxHeals)
	if !ok || !h.Done || h.Rounds < 0 || h.Rounds > impl.MaxHeals || !impl.GoodNet(h.Net) {
		t.Errorf("not healed for %v: %d, %v, %v of %q", members, h.Rounds, h.Done, ok, linesOf(x))
		return h
	}
	checkNoneOpen(t, "healed", h.Net, members)
	checkFinishedIn(t, "healed", h.Net, members, true)
	checkSafeIn(t, "healed", h.Net, codeSafe)
	checkPending(t, x, h.Net, members)
	for me := range x.Reps {
		checkPromise8(t, x.Reps[me], h.Net.Reps[me])
		if !slices.Contains(members, me) && !sameReplica(x.Reps[me], h.Net.Reps[me]) {
			t.Error("replica", me, "is no member of", members, "and became", h.Net.Reps[me], "was", x.Reps[me])
		}
	}
	isTheirs := func(m impl.Msg) bool { return slices.Contains(members, m.From) && slices.Contains(members, m.To) }
	if left := slices.DeleteFunc(cloneMsgs(x.Bag), isTheirs); !sameMsgs(h.Net.Bag, left) || !slices.Equal(h.Net.Asked, x.Asked) {
		t.Errorf("of %v\n%q became\n%q", members, linesOf(x), linesOf(h.Net))
	}
	return h
}

// checkPending reports what some member had a row of, or had something settled
// hang on, and some member has not settled after.
func checkPending(t *testing.T, before, after impl.Net, members []int) {
	t.Helper()
	for _, at := range instancesOf(len(before.Reps)) {
		for _, knows := range members {
			for _, me := range members {
				if plainKnows(before.Reps[knows].Table, at) && plainRow(after.Reps[me].Table, at).State != impl.RwCom {
					t.Errorf("%d knew of %v, and %d has not settled it: %q, was %q", knows, at, me, linesOf(after), linesOf(before))
				}
			}
		}
	}
}

// healRun does steps in a net, and looks after each at whether each least
// majority can go on.
type healRun struct {
	*player
	rounds, most int
}

func newHealRun(t *testing.T, n int) *healRun {
	r := &healRun{player: newPlayer(t, n)}
	r.look = r.checkAll
	r.checkAll()
	return r
}

func (r *healRun) checkAll() {
	r.t.Helper()
	for _, members := range leastMajorities(r.n) {
		h := checkPromise13(r.t, r.x, members)
		r.rounds, r.most = r.rounds+h.Rounds, max(r.most, h.Rounds)
	}
}

// checkOutcome reports members of a least majority that settle something else.
func (r *healRun) checkOutcome(at instance, want impl.Row, majorities ...[]int) {
	r.t.Helper()
	for _, members := range majorities {
		h, _ := impl.HealNet(r.x, members, impl.MaxHeals)
		for _, me := range members {
			got := plainRow(h.Net.Reps[me].Table, at)
			if got.State != impl.RwCom || got.Cmd != want.Cmd || !plainSame(got.Attr, want.Attr) {
				r.t.Errorf("%v: %d settled %s, not %s, of %q", members, me, rowText(got), rowText(want), linesOf(r.x))
			}
		}
	}
}

// toOthers does a step of each message that is in the bag and not to one of
// these, the last first.
func (r *healRun) toOthers(step int, these ...int) {
	r.t.Helper()
	for at, m := range slices.Backward(r.x.Bag) {
		if !slices.Contains(these, m.To) {
			r.must(stepAt(step, at))
		}
	}
}

func TestPromise13OfOneCommand(t *testing.T) {
	for _, n := range groups {
		for me := range n {
			of, r := com(moved, 1, noDeps(n)...), newHealRun(t, n)
			r.must(submitAt(me, moved))
			for _, members := range leastMajorities(n) {
				if slices.Contains(members, me) {
					r.checkOutcome(instance{me, 1}, of, members)
				} else {
					checkNoneOpen(t, "nobody knows", r.x, members)
				}
			}
			r.each(impl.NtTake, impl.MsPre)
			r.checkOutcome(instance{me, 1}, of, leastMajorities(n)...)
			r.takeAll()
			r.checkOutcome(instance{me, 1}, of, leastMajorities(n)...)
		}
	}
}

// TestPromise13OfWhatOneHasSettled is of a leader that alone knows that all have
// voted alike: the others come to the same without it.
func TestPromise13OfWhatOneHasSettled(t *testing.T) {
	for _, n := range groups {
		of, r := com(moved, 1, noDeps(n)...), newHealRun(t, n)
		r.must(submitAt(0, moved))
		for _, kind := range []int{impl.MsPre, impl.MsPreOk} {
			r.each(impl.NtTake, kind)
		}
		r.each(impl.NtLose, impl.MsCom)
		if plainRow(r.x.Reps[0].Table, instance{0, 1}).State != impl.RwCom {
			t.Error("not settled:", linesOf(r.x))
		}
		r.must(stepAt(impl.NtCrash, 0))
		r.checkOutcome(instance{0, 1}, of, leastMajorities(n)...)
	}
}

// TestPromise13OfWhatFewHaveAccepted is of a leader that hurries, and of two
// commands that hang on each other: one of them a majority has accepted, which
// only its leader knows.
func TestPromise13OfWhatFewHaveAccepted(t *testing.T) {
	for _, n := range groups {
		some, last := numbersBelow(n/2+1), n-1
		r := newHealRun(t, n)
		r.must(submitAt(0, moved), submitAt(last, asked))
		r.toOthers(impl.NtLose, some...)
		for _, kind := range []int{impl.MsPre, impl.MsPreOk, impl.MsAcc, impl.MsAccOk} {
			r.each(impl.NtTake, kind)
		}
		r.try(stepOf(impl.NtHurry, 0, 0, 1))
		for _, kind := range []int{impl.MsAcc, impl.MsAccOk} {
			r.toOthers(impl.NtLose, some...)
			r.each(impl.NtTake, kind)
		}
		r.each(impl.NtLose, impl.MsCom)
		r.must(stepAt(impl.NtCrash, 0))
		of := plainRow(r.x.Reps[0].Table, instance{0, 1})
		if of.State != impl.RwCom || plainRow(r.x.Reps[1].Table, instance{0, 1}).State != impl.RwAcc {
			t.Error("not settled:", linesOf(r.x))
		}
		r.checkOutcome(instance{0, 1}, of, leastMajorities(n)...)
	}
}

// TestPromise13OfAForgottenOne is of a command that nobody has heard of but the
// one that was asked and crashed.
func TestPromise13OfAForgottenOne(t *testing.T) {
	for _, n := range groups {
		of, none := com(moved, 1, noDeps(n)...), com(impl.Cmd{}, 0, noDeps(n)...)
		r := newHealRun(t, n)
		r.must(submitAt(0, moved))
		r.toOthers(impl.NtLose)
		r.must(stepAt(impl.NtCrash, 0))
		others := numbersBelow(n)[n/2:]
		r.checkOutcome(instance{0, 1}, of, numbersBelow(n/2+1))
		checkNoneOpen(t, "nobody knows", r.x, others)
		// One of the others begins to recover it: then they give it up.
		r.must(stepOf(impl.NtRecover, n-1, 0, 1))
		r.checkOutcome(instance{0, 1}, none, others)
		r.checkOutcome(instance{0, 1}, of, numbersBelow(n/2+1))
	}
}

// TestPromise13OfAllSteps is of all kinds of steps, up to many replicas that
// recover one command against each other.
func TestPromise13OfAllSteps(t *testing.T) {
	for _, n := range groups {
		r := newHealRun(t, n)
		r.must(submitAt(0, moved), stepAt(impl.NtTwice, 0), stepAt(impl.NtLose, n-2), submitAt(0, other), submitAt(1, asked))
		r.each(impl.NtTake, impl.MsPre)
		for me := range n {
			r.must(stepOf(impl.NtRecover, me, 0, 1))
		}
		r.try(stepOf(impl.NtHurry, 0, 0, 2))
		r.each(impl.NtTake, impl.MsPreOk)
		r.must(stepAt(impl.NtCrash, 0), stepAt(impl.NtCrash, 1))
		r.each(impl.NtTake, impl.MsPrep)
		r.takeAll()
		r.must(submitAt(n-1, moved))
		for me := range n - 1 {
			r.must(stepOf(impl.NtRecover, me, n-1, 1), stepAt(impl.NtCrash, me))
		}
		r.toOthers(impl.NtLose)
		if r.rounds < 20 {
			t.Error("there were", r.rounds, "rounds")
		}
	}
}

// healings counts what was met in drawn runs.
type healings struct {
	heals, talks, rounds, most, none, later int
}

func (c *healings) add(x impl.Net, members []int, h impl.Healed) {
	c.heals++
	c.rounds += h.Rounds
	c.most = max(c.most, h.Rounds)
	if h.Rounds == 0 && !plainFinished(x, members) {
		c.talks++
	}
	for _, at := range instancesOf(len(x.Reps)) {
		after := plainRow(h.Net.Reps[members[0]].Table, at)
		if after.State == impl.RwCom && after.Cmd == (impl.Cmd{}) && plainRow(x.Reps[members[0]].Table, at).State != impl.RwCom {
			c.none++
		}
	}
}

// checkLater reports where a net that was healed is not safe when the others are
// heard again, or can't be healed for other members then.
func (c *healings) checkLater(t *testing.T, m *mixer, healed impl.Net) {
	t.Helper()
	n := len(healed.Reps)
	x, _, _ := impl.DeliverAll(healed)
	checkSafeIn(t, "healed, and delivered", x, codeSafe)
	others := leastMajorities(n)[m.next(len(leastMajorities(n)))]
	checkPromise13(t, x, others)
	all := checkPromise13(t, checkPromise13(t, healed, others).Net, numbersBelow(n))
	if same, ok := impl.SameTold(all.Net); !same || !ok {
		t.Errorf("told otherwise: %q", linesOf(all.Net))
	}
	c.later++
}

func TestPromise13OfDrawnRuns(t *testing.T) {
	for _, n := range groups {
		kinds, c := newTally(), healings{}
		for seed := range 60 {
			m, p := mixer(6000*n+seed), newPlayer(t, n)
			for i := range impl.MaxSteps {
				s := m.calmStep(p.x, 1+seed%impl.MaxRow, m.pick(1, 2, 10, 50))
				kinds.count(s, p.try(s))
				if i%25 != seed%25 && i != impl.MaxSteps-1 {
					continue
				}
				for _, members := range leastMajorities(n) {
					h := checkPromise13(t, p.x, members)
					c.add(p.x, members, h)
					if m.next(10) == 0 {
						checkHealedAs(t, "drawn", p.x, members, impl.MaxHeals, plainHeal(p.x, members, impl.MaxHeals))
						c.checkLater(t, &m, h.Net)
					}
				}
			}
			p.checkPlayed()
		}
		kinds.check(t, 5)
		if min(c.heals, c.rounds) < 800 || min(c.talks, c.none, c.later) < 20 || c.most < 5 {
			t.Errorf("in groups of %d were met %+v", n, c)
		}
	}
}

// TestPromise13OfFewRounds is of as many rounds as are needed, and of fewer: then
// it is not done, but safe.
func TestPromise13OfFewRounds(t *testing.T) {
	for _, n := range groups {
		m, fewer := mixer(190+n), 0
		for range 60 {
			x := m.played(n)
			members := leastMajorities(n)[m.next(len(leastMajorities(n)))]
			whole := checkPromise13(t, x, members)
			for rounds := range whole.Rounds + 2 {
				h, ok := impl.HealNet(x, members, rounds)
				if !ok || h.Rounds != min(rounds, whole.Rounds) || h.Done != (rounds >= whole.Rounds) {
					t.Errorf("in %d of %d rounds: %d, %v, %v", rounds, whole.Rounds, h.Rounds, h.Done, ok)
				}
				if _, _, _, isOpen := impl.FirstOpen(h.Net, members); isOpen == h.Done {
					t.Error("open:", isOpen, "done:", h.Done, linesOf(h.Net))
				}
				checkSafeIn(t, "fewer rounds", h.Net, codeSafe)
				// It goes on from there as if it had not stopped.
				rest, _ := impl.HealNet(h.Net, members, impl.MaxHeals)
				rest.Rounds += h.Rounds
				if !sameHealed(rest, whole) {
					t.Errorf("%d rounds and the rest: %q, not %q", rounds, linesOf(rest.Net), linesOf(whole.Net))
				}
				fewer += min(1, max(0, whole.Rounds-rounds))
			}
		}
		if fewer < 60 {
			t.Error("in groups of", n, "there were fewer rounds", fewer, "times")
		}
	}
}
