package tests

import (
	"testing"

	"loop.example/g00698/impl"
)

// safeRun does steps in a net, and looks after each at whether it is safe.
type safeRun struct {
	*player
}

func newSafeRun(t *testing.T, n int) safeRun {
	r := safeRun{newPlayer(t, n)}
	r.look = r.checkSafe
	r.checkSafe()
	return r
}

func (r safeRun) checkSafe() {
	r.t.Helper()
	checkSafeIn(r.t, "a state that is reached", r.x, codeSafe)
	checkAgreeIn(r.t, "a state that is reached", r.x, true)
	checkAskedFor(r.t, "a state that is reached", r.x, true)
	checkOrdersAgree(r.t, "a state that is reached", r.x, true)
}

// each does a step of each message of a kind to some replicas that is in the
// bag, the last first.
func (r safeRun) each(step, kind int, to ...int) {
	r.t.Helper()
	for at := len(r.x.Bag) - 1; at >= 0; at-- {
		if m := r.x.Bag[at]; m.Kind == kind && maskOf(to...)&maskOf(m.To) != 0 {
			r.must(stepAt(step, at))
		}
	}
}

// checkPlayed reports where PlayNet of all the steps, or of the first half of
// them, leads to a net that is not safe.
func (r safeRun) checkPlayed() {
	r.t.Helper()
	r.player.checkPlayed()
	for _, count := range []int{len(r.steps) / 2, len(r.steps)} {
		x, _, ok := impl.PlayNet(r.n, r.steps[:count])
		if code, isSafe := impl.SafeIn(x); !ok || code != codeSafe || !isSafe {
			r.t.Error("PlayNet", r.n, r.steps[:count], ok, "SafeIn", code, isSafe)
		}
	}
}

// checkEnd reports where the settled table is another one, or something is open
// for other members than of these masks.
func (r safeRun) checkEnd(want impl.Table, wanted func(mask int) bool) {
	r.t.Helper()
	checkSettledOf(r.t, "in the end", r.x, want)
	checkFinishedFor(r.t, "in the end", r.x, wanted)
	r.checkPlayed()
}

func TestPromise10OfOneCommand(t *testing.T) {
	for _, n := range groups {
		for me := range n {
			r := newSafeRun(t, n)
			checkFinishedFor(t, "at first", r.x, always(true))
			r.must(submitAt(me, moved))
			checkFinishedFor(t, "submitted", r.x, func(mask int) bool { return mask&maskOf(me) == 0 })
			r.each(impl.NtTake, impl.MsPre, numbersBelow(n)...)
			checkFinishedFor(t, "voted", r.x, always(false))
			r.each(impl.NtTake, impl.MsPreOk, me)
			checkFinishedFor(t, "one knows", r.x, func(mask int) bool { return mask == maskOf(me) })
			r.takeAll()
			r.checkEnd(withRow(table(n), instance{me, 1}, com(moved, 1, noDeps(n)...)), always(true))
		}
	}
}

// TestPromise10OfTwoAtOnce is of two that are asked at once: those that
// interfere hang on each other.
func TestPromise10OfTwoAtOnce(t *testing.T) {
	for _, n := range groups {
		last := instance{n - 1, 1}
		r := newSafeRun(t, n)
		r.must(submitAt(0, moved), submitAt(n-1, asked))
		r.takeAll()
		want := withRow(table(n, []impl.Row{com(moved, 2, depsOn(n, last)...)}), last, com(asked, 2, depsOn(n, instance{0, 1})...))
		r.checkEnd(want, always(true))

		r = newSafeRun(t, n)
		r.must(submitAt(0, moved), submitAt(n-1, other))
		r.takeAll()
		r.checkEnd(withRow(table(n, []impl.Row{com(moved, 1, noDeps(n)...)}), last, com(other, 1, noDeps(n)...)), always(true))
	}
}

// TestPromise10OfAllSteps is of two commands of which the first is doubled, lost
// in parts, hurried, forgotten and recovered before both are settled.
func TestPromise10OfAllSteps(t *testing.T) {
	for _, n := range groups {
		all := numbersBelow(n)
		r := newSafeRun(t, n)
		r.must(submitAt(0, moved), stepAt(impl.NtTwice, 0), stepAt(impl.NtLose, n-2))
		r.each(impl.NtTake, impl.MsPre, all...)
		r.each(impl.NtTwice, impl.MsPreOk, 0)
		r.each(impl.NtTake, impl.MsPreOk, 0)
		r.must(stepOf(impl.NtHurry, 0, 0, 1), submitAt(1, asked), stepAt(impl.NtCrash, 0))
		r.each(impl.NtTake, impl.MsAcc, 1)
		r.each(impl.NtLose, impl.MsAccOk, 0)
		r.must(stepOf(impl.NtRecover, 2, 0, 1))
		r.takeAll()
		r.checkKinds()
		want := table(n, []impl.Row{com(moved, 1, noDeps(n)...)}, []impl.Row{com(asked, 2, depsOn(n, instance{0, 1})...)})
		r.checkEnd(want, always(true))
	}
}

// TestPromise10OfTwoLeads is of two replicas that recover one command while its
// own leader goes on: the short way, the long one, and none.
func TestPromise10OfTwoLeads(t *testing.T) {
	for _, n := range groups {
		all, of := numbersBelow(n), com(moved, 1, noDeps(n)...)
		r := newSafeRun(t, n)
		r.must(submitAt(0, moved))
		r.each(impl.NtTake, impl.MsPre, all...)
		r.must(stepOf(impl.NtRecover, 1, 0, 1), stepOf(impl.NtRecover, 2, 0, 1))
		r.each(impl.NtTake, impl.MsPreOk, 0)
		r.each(impl.NtTake, impl.MsPrep, all...)
		r.takeAll()
		r.checkEnd(table(n, []impl.Row{of}), always(true))

		r = newSafeRun(t, n)
		r.must(submitAt(0, moved))
		r.each(impl.NtLose, impl.MsPre, all...)
		r.must(stepOf(impl.NtRecover, 1, 0, 1))
		r.each(impl.NtLose, impl.MsPrep, 0)
		r.takeAll()
		// The one that was asked has not been forgotten, but comes too late.
		r.checkEnd(table(n, []impl.Row{com(impl.Cmd{}, 0, noDeps(n)...)}), always(true))

		r = newSafeRun(t, n)
		r.must(stepOf(impl.NtRecover, 2, 0, 1))
		r.each(impl.NtLose, impl.MsPrep, 0)
		r.each(impl.NtTake, impl.MsPrep, all...)
		r.must(submitAt(0, moved))
		r.takeAll()
		r.checkEnd(table(n, []impl.Row{com(impl.Cmd{}, 0, noDeps(n)...)}), always(true))
	}
}

// TestPromise10OfParts is of a group of which a majority settles what the others
// do not hear of.
func TestPromise10OfParts(t *testing.T) {
	for _, n := range groups {
		most := numbersBelow(n/2 + 1)
		r := newSafeRun(t, n)
		r.must(submitAt(0, moved), submitAt(1, asked))
		for _, kind := range []int{impl.MsPre, impl.MsPreOk} {
			r.each(impl.NtTake, kind, most...)
		}
		// They waited for all: of the first one those that it has heard of are the same.
		r.try(stepOf(impl.NtHurry, 0, 0, 1))
		r.try(stepOf(impl.NtHurry, 1, 1, 1))
		for _, kind := range []int{impl.MsAcc, impl.MsAccOk, impl.MsCom} {
			r.each(impl.NtTake, kind, most...)
		}
		isPart := func(mask int) bool { return mask&^maskOf(most...) == 0 || mask&maskOf(most...) == 0 }
		want := table(n, []impl.Row{com(moved, 2, depsOn(n, instance{1, 1})...)}, []impl.Row{com(asked, 2, depsOn(n, instance{0, 1})...)})
		r.checkEnd(want, isPart)
	}
}

// outcomes counts what came of drawn runs.
type outcomes struct {
	settled, none, interfering, open int
}

func (o *outcomes) add(x impl.Net) {
	settled := plainSettled(x)
	all := plainCommitted(settled)
	for i, at := range all {
		o.settled++
		of := plainRow(settled, at).Cmd
		if of == (impl.Cmd{}) {
			o.none++
		}
		for _, other := range all[:i] {
			if plainInterfere(of, plainRow(settled, other).Cmd) {
				o.interfering++
			}
		}
	}
	if !plainFinished(x, numbersBelow(len(x.Reps))) {
		o.open++
	}
}

// calmStep is a step of a drawn run. Most of them take a message: few others are
// done in so few steps, or nothing would settle.
func (m *mixer) calmStep(x impl.Net, instances, calm int) impl.Step {
	if count := len(x.Bag); count > 0 && m.next(calm) > 0 {
		return stepAt(impl.NtTake, m.next(min(count, 1+m.next(6))))
	}
	return m.netStep(x, instances, false)
}

func TestPromise10OfDrawnRuns(t *testing.T) {
	for _, n := range groups {
		c, o, runs := newTally(), outcomes{}, 100
		for seed := range runs {
			m, r := mixer(3000*n+seed), newSafeRun(t, n)
			for range impl.MaxSteps {
				s := m.calmStep(r.x, 1+seed%3, m.pick(1, 2, 10, 50))
				c.count(s, r.try(s))
			}
			r.checkPlayed()
			// What is left in the bag settles more.
			r.takeAll()
			checkSafeAnswers(t, safeArgs{r.x, numbersIn(1 + m.next(1<<n-1))})
			o.add(r.x)
		}
		c.check(t, 10)
		if min(o.settled, o.interfering) < 150 || min(o.none, o.open, runs-o.open) < 5 {
			t.Error("in groups of", n, "came", o)
		}
	}
}
