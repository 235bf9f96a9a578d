package tests

import (
	"slices"
	"testing"

	"loop.example/g00698/impl"
)

// group is replicas that talk: what was sent and not yet taken is in the bag.
type group struct {
	t    *testing.T
	n    int
	reps []impl.Replica
	bag  []impl.Msg
}

func newGroup(t *testing.T, n int) *group {
	g := &group{t: t, n: n}
	for me := range n {
		r, _ := impl.NewReplica(n, me)
		g.reps = append(g.reps, r)
	}
	return g
}

// do lets a replica do a step, which reports whether it was done.
func (g *group) do(me int, s step) bool {
	g.t.Helper()
	after, sent, ok := s(g.reps[me])
	if ok {
		g.reps[me], g.bag = after, append(g.bag, sent...)
	}
	return ok
}

func (g *group) mustDo(me int, s step) {
	g.t.Helper()
	if !g.do(me, s) {
		g.t.Fatal("not done by", me, g.reps[me])
	}
}

// takeSome takes in turn the messages of a kind that are From and To members,
// and tells how many were taken. What they send stays in the bag.
func (g *group) takeSome(kind int, members ...int) int {
	g.t.Helper()
	old := g.bag
	g.bag = nil
	taken := 0
	for _, m := range old {
		if m.Kind != kind || !slices.Contains(members, m.From) || !slices.Contains(members, m.To) {
			g.bag = append(g.bag, m)
			continue
		}
		taken++
		g.mustDo(m.To, takeMsg(m))
	}
	return taken
}

func takeMsg(m impl.Msg) step {
	return func(r impl.Replica) (impl.Replica, []impl.Msg, bool) { return impl.TakeMsg(r, m) }
}

// checkTaken takes messages of these kinds, one kind behind the other, each as
// often as counts tells, and reports where there are more or fewer.
func (g *group) checkTaken(kinds, counts []int, members ...int) {
	g.t.Helper()
	for i, kind := range kinds {
		if taken := g.takeSome(kind, members...); taken != counts[i] {
			g.t.Errorf("of kind %d %d messages were taken, not %d: %v", kind, taken, counts[i], g.bag)
		}
	}
}

// checkSettled reports members that have not committed that.
func (g *group) checkSettled(at instance, c impl.Cmd, a impl.Attr, members ...int) {
	g.t.Helper()
	for _, me := range members {
		r := plainRow(g.reps[me].Table, at)
		if r.State != impl.RwCom || r.Cmd != c || !plainSame(r.Attr, a) || len(g.reps[me].Leads) != 0 {
			g.t.Errorf("replica %d: %q, not com|%s|%s", me, stateOf(g.reps[me]), plainText(c), plainAttrText(a))
		}
	}
}

func TestRunOfTheShortWay(t *testing.T) {
	for _, n := range groups {
		for me := range n {
			g, all := newGroup(t, n), numbersBelow(n)
			g.mustDo(me, submit(moved))
			g.checkTaken([]int{impl.MsPre, impl.MsPreOk, impl.MsAcc, impl.MsCom}, []int{n - 1, n - 1, 0, n - 1}, all...)
			g.checkSettled(instance{me, 1}, moved, attr(1, make([]int, n)...), all...)
			if len(g.bag) != 0 {
				t.Error("left in the bag:", g.bag)
			}
			// The next one hangs on that one, and all know it.
			a := attr(2, make([]int, n)...)
			a.Deps[me] = 1
			g.mustDo(me, submit(asked))
			g.checkTaken([]int{impl.MsPre, impl.MsPreOk, impl.MsAcc, impl.MsCom}, []int{n - 1, n - 1, 0, n - 1}, all...)
			g.checkSettled(instance{me, 2}, asked, a, all...)
		}
	}
}

func TestRunOfTheLongWay(t *testing.T) {
	for _, n := range groups {
		g, all := newGroup(t, n), numbersBelow(n)
		// The first and the last replica each submit what the others do not know.
		g.mustDo(0, submit(moved))
		g.mustDo(n-1, submit(asked))
		first, last := attr(2, make([]int, n)...), attr(2, make([]int, n)...)
		first.Deps[n-1], last.Deps[0] = 1, 1
		g.checkTaken([]int{impl.MsPre, impl.MsPreOk, impl.MsAcc, impl.MsAccOk, impl.MsCom}, []int{2 * (n - 1), 2 * (n - 1), 2 * (n - 1), 2 * (n - 1), 2 * (n - 1)}, all...)
		g.checkSettled(instance{0, 1}, moved, first, all...)
		g.checkSettled(instance{n - 1, 1}, asked, last, all...)
	}
}

func TestRunOfThoseWhoHurry(t *testing.T) {
	for _, n := range groups {
		g, some := newGroup(t, n), numbersBelow(n/2+1)
		g.mustDo(0, submit(moved))
		g.checkTaken([]int{impl.MsPre, impl.MsPreOk, impl.MsAcc}, []int{n / 2, n / 2, 0}, some...)
		g.mustDo(0, hurry(0, 1))
		g.checkTaken([]int{impl.MsAcc, impl.MsAccOk, impl.MsCom}, []int{n / 2, n / 2, n / 2}, some...)
		g.checkSettled(instance{0, 1}, moved, attr(1, make([]int, n)...), some...)
	}
}

// The replicas of these runs are all but the first one, which is gone once its
// messages have come to some.
func TestRunOfRecovery(t *testing.T) {
	const again = 1
	for _, n := range groups {
		left := numbersBelow(n)[1:]
		none := attr(0, make([]int, n)...)
		for _, c := range []struct {
			knowing, again int
			cmd            impl.Cmd
			seq            int
		}{
			{0, 0, impl.Cmd{}, 0},
			{1, again, moved, 1},
			{n / 2, again, moved, 1},
			{n - 1, 0, moved, 1},
		} {
			g := newGroup(t, n)
			g.mustDo(0, submit(moved))
			for _, m := range g.bag {
				if m.To <= c.knowing {
					g.mustDo(m.To, takeMsg(m))
				}
			}
			g.bag = nil
			g.mustDo(1, recoverAt(0, 1))
			g.checkTaken([]int{impl.MsPrep, impl.MsPrepOk}, []int{n - 2, n - 2}, left...)
			g.checkTaken([]int{impl.MsPre, impl.MsPreOk}, []int{c.again * (n - 2), c.again * (n - 2)}, left...)
			g.checkTaken([]int{impl.MsAcc, impl.MsAccOk, impl.MsCom}, []int{n - 2, n - 2, n - 2}, left...)
			none.Seq = c.seq
			g.checkSettled(instance{0, 1}, c.cmd, none, left...)
			// The first one comes back, and is told.
			g.bag = nil
			g.mustDo(0, recoverAt(0, 1))
			g.checkTaken([]int{impl.MsPrep, impl.MsCom}, []int{n - 1, n - 1}, numbersBelow(n)...)
			g.checkSettled(instance{0, 1}, c.cmd, none, numbersBelow(n)...)
		}
	}
}

func TestRunOfRecoveryOfWhatWasAccepted(t *testing.T) {
	for _, n := range groups {
		g, left := newGroup(t, n), numbersBelow(n)[1:]
		g.mustDo(n-1, submit(asked))
		g.mustDo(0, submit(moved))
		g.checkTaken([]int{impl.MsPreOk, impl.MsAcc}, []int{0, 0}, numbersBelow(n)...)
		for _, kind := range []int{impl.MsPre, impl.MsPreOk} {
			g.takeSome(kind, 0, 1, 2, n-1)
		}
		// One replica has accepted what the first one knew of then.
		a := attr(2, make([]int, n)...)
		a.Deps[n-1] = 1
		if taken := g.takeSome(impl.MsAcc, 0, 1); taken != 1 {
			t.Fatal("accepted by", taken, g.bag)
		}
		g.bag = nil
		g.mustDo(2, recoverAt(0, 1))
		g.checkTaken([]int{impl.MsPrep, impl.MsPrepOk, impl.MsPre}, []int{n - 2, n - 2, 0}, left...)
		g.checkTaken([]int{impl.MsAcc, impl.MsAccOk, impl.MsCom}, []int{n - 2, n - 2, n - 2}, left...)
		for _, me := range left {
			if r := plainRow(g.reps[me].Table, instance{0, 1}); r.State != impl.RwCom || r.Cmd != moved || !plainSame(r.Attr, a) {
				t.Error("replica", me, stateOf(g.reps[me]))
			}
		}
	}
}

// checkPromise8 reports where a Ballot falls, or what is committed changes.
func checkPromise8(t *testing.T, before, after impl.Replica) {
	t.Helper()
	for _, at := range instancesOf(before.Table.N) {
		was, is := plainRow(before.Table, at), plainRow(after.Table, at)
		if is.Ballot < was.Ballot {
			t.Error("the Ballot of", at, "fell:", before, after)
		}
		if was.State == impl.RwCom && !sameRow(was, is) {
			t.Error("what was committed of", at, "changed:", before, after)
		}
	}
}

// checkSent reports messages that are not good, or not from that replica.
func checkSent(t *testing.T, r impl.Replica, sent []impl.Msg) {
	t.Helper()
	for _, m := range sent {
		if !plainGoodMsg(r.Table.N, m) || m.From != r.Me {
			t.Error("sent:", r.Me, m)
		}
	}
}

// checkedStep is a step that is compared with what the plain one does.
func checkedStep(t *testing.T, real, plain step) step {
	return func(r impl.Replica) (impl.Replica, []impl.Msg, bool) {
		t.Helper()
		given := cloneReplica(r)
		got, sent, ok := real(given)
		want, wantSent, wantOk := plain(r)
		if ok != wantOk || !sameReplica(got, want) || !sameMsgs(sent, wantSent) {
			t.Errorf("%q:\n%q, sent %q, %v, not\n%q, sent %q, %v", stateOf(r), stateOf(got), textsOf(sent), ok, stateOf(want), textsOf(wantSent), wantOk)
		}
		if !sameReplica(given, r) {
			t.Error("the argument became", given, "was", r)
		}
		if ok {
			checkPromise8(t, r, got)
			checkSent(t, r, sent)
			if !impl.GoodReplica(got) {
				t.Error("not good:", got)
			}
		}
		return got, sent, ok
	}
}

func checkedTake(t *testing.T, m impl.Msg) step {
	return checkedStep(t, takeMsg(m), func(r impl.Replica) (impl.Replica, []impl.Msg, bool) { return plainTake(r, m) })
}

func checkedSubmit(t *testing.T, c impl.Cmd) step {
	return checkedStep(t, submit(c), func(r impl.Replica) (impl.Replica, []impl.Msg, bool) { return plainSubmit(r, c) })
}

func checkedRecover(t *testing.T, at instance) step {
	return checkedStep(t, recoverAt(at[0], at[1]), func(r impl.Replica) (impl.Replica, []impl.Msg, bool) { return plainRecover(r, at[0], at[1]) })
}

func checkedHurry(t *testing.T, at instance) step {
	return checkedStep(t, hurry(at[0], at[1]), func(r impl.Replica) (impl.Replica, []impl.Msg, bool) { return plainHurry(r, at[0], at[1]) })
}

func checkedCrash(t *testing.T) step {
	crash := func(r impl.Replica) (impl.Replica, []impl.Msg, bool) {
		after, ok := impl.CrashOf(r)
		return after, nil, ok
	}
	return checkedStep(t, crash, func(r impl.Replica) (impl.Replica, []impl.Msg, bool) {
		after, ok := plainCrash(r)
		return after, nil, ok
	})
}

// drawnStep lets some replica do something: most of the time, take a message,
// which may be lost or come twice.
func (g *group) drawnStep(m *mixer, instances int) {
	me, at := m.next(g.n), instance{m.next(g.n), 1 + m.next(instances)}
	switch what := m.next(40); {
	case what < 3:
		g.do(me, checkedSubmit(g.t, mixedCmds[m.next(len(mixedCmds))]))
	case what == 3:
		g.do(me, checkedRecover(g.t, at))
	case what == 4:
		g.do(me, checkedHurry(g.t, at))
	case what == 5 && m.next(4) == 0:
		g.do(me, checkedCrash(g.t))
	case len(g.bag) > 0:
		place := m.next(min(len(g.bag), 20))
		taken := g.bag[place]
		if what != 6 {
			g.bag = slices.Delete(g.bag, place, place+1)
		}
		if what != 7 {
			g.do(taken.To, checkedTake(g.t, taken))
		}
	}
}

// checkAgree reports what two replicas have committed that is not the same, and
// tells how many instances are committed somewhere, and how many of these with
// a Vote, which the short way does not have.
func (g *group) checkAgree() (int, int) {
	g.t.Helper()
	settled, voted := 0, 0
	for _, at := range instancesOf(g.n) {
		var first []impl.Row
		for _, r := range g.reps {
			of := plainRow(r.Table, at)
			if of.State != impl.RwCom {
				continue
			}
			first = append(first, of)
			if of.Cmd != first[0].Cmd || !plainSame(of.Attr, first[0].Attr) {
				g.t.Error("two replicas do not agree on", at, first[0], of)
			}
		}
		if len(first) > 0 {
			settled++
			voted += min(first[0].Vote, 1)
		}
	}
	return settled, voted
}

func TestPromise8OfDrawnRuns(t *testing.T) {
	for _, n := range groups {
		settled, voted := 0, 0
		for seed := range 60 {
			m, g := mixer(1000*n+seed), newGroup(t, n)
			for range 500 {
				g.drawnStep(&m, 1+seed%impl.MaxRow)
			}
			some, late := g.checkAgree()
			settled, voted = settled+some, voted+late
		}
		if settled < 200 || voted < 50 || voted > settled-50 {
			t.Error("in groups of", n, "were settled", settled, "of which with a Vote", voted)
		}
	}
}

// msgTo is a good message to a replica, most of the time of an instance that it
// leads or has a row of, with a Ballot that matters there.
func (m *mixer) msgTo(r impl.Replica) impl.Msg {
	n := r.Table.N
	at := instancesOf(n)[m.next(n*impl.MaxRow)]
	ballots := []int{0, 9999, m.next(30), m.next(30)}
	first := emptyRow(n).Attr
	kind := m.pick(msgKinds...)
	if len(r.Leads) > 0 && m.next(4) > 0 {
		l := r.Leads[m.next(len(r.Leads))]
		at, first = instance{l.Rep, l.No}, l.First
		ballots = append(ballots, slices.Repeat([]int{l.Ballot}, 8)...)
		if m.next(2) == 0 {
			kind = map[int]int{impl.LdPre: impl.MsPreOk, impl.LdAcc: impl.MsAccOk, impl.LdPrep: impl.MsPrepOk}[l.Phase]
		}
	}
	of := plainRow(r.Table, at)
	ballots = append(ballots, of.Vote, of.Vote, of.Ballot, of.Ballot, max(of.Ballot-1, 0), min(of.Ballot+1, 9999))
	c, a := mixedCmds[m.next(len(mixedCmds))], m.attr(n)
	from := (r.Me + 1 + m.next(n-1)) % n
	told := msg(kind, from, r.Me, at[0], at[1], m.pick(ballots...), impl.Cmd{}, emptyRow(n).Attr)
	switch kind {
	case impl.MsPre, impl.MsAcc:
		told.Cmd, told.Attr = c, a
	case impl.MsCom:
		told.Ballot, told.Cmd, told.Attr = 0, c, a
	case impl.MsPreOk:
		told.Attr = a
		if m.next(2) == 0 {
			told.Attr = cloneAttr(first)
		}
	case impl.MsPrepOk:
		seen := m.row(n, 1<<30)
		if m.next(2) == 0 && of.State != impl.RwCom {
			seen = cloneRow(of)
		}
		told = withRowOf(told, seen)
		told.Ballot = max(told.Vote, m.pick(ballots...))
	}
	return told
}

func TestPromise8OfDrawnReplicas(t *testing.T) {
	for _, n := range groups {
		m := mixer(n)
		for range 2500 {
			r := m.replica(n)
			for range 4 {
				checkedTake(t, m.msgTo(r))(r)
			}
			at := instancesOf(n)[m.next(n*impl.MaxRow)]
			checkedRecover(t, at)(r)
			checkedHurry(t, at)(r)
			checkedSubmit(t, mixedCmds[m.next(len(mixedCmds))])(r)
			checkedCrash(t)(r)
		}
	}
}

// TestPromise8OfAllBallots is of all kinds of messages to rows of all states
// with leads in all phases.
func TestPromise8OfAllBallots(t *testing.T) {
	for _, n := range groups {
		at, a, b := instance{n - 1, 2}, attr(3, make([]int, n)...), attr(4, numbersBelow(n)...)
		rows := []impl.Row{emptyRow(n), promised(n, 9), promised(n, 17)}
		for _, state := range states {
			for _, ballots := range [][2]int{{0, 0}, {9, 0}, {9, 8}, {9, 9}, {17, 9}, {9999, 9999}} {
				rows = append(rows, row(state, ballots[0], ballots[1], asked, a))
			}
		}
		for _, of := range rows {
			for _, leads := range leadsAt(n, at, a, b) {
				r := replica(1, withRow(table(n, []impl.Row{row(impl.RwPre, 0, 0, read(1, 2), a)}), at, of), leads...)
				for _, m := range msgsAt(n, at, a, b) {
					checkedTake(t, m)(r)
				}
				checkedRecover(t, at)(r)
				checkedHurry(t, at)(r)
			}
		}
	}
}

// leadsAt is no lead, and leads of replica 1 in all phases.
func leadsAt(n int, at instance, a, b impl.Attr) [][]impl.Lead {
	leads := [][]impl.Lead{nil}
	for _, ballot := range []int{0, 9, 17} {
		for _, who := range [][]int{{1}, {0, 1}, {1, 2}, numbersBelow(n)[:n-1], numbersBelow(n)} {
			seen := slices.Repeat([]impl.Row{row(impl.RwPre, ballot, 0, asked, a)}, len(who))
			none := slices.Repeat([]impl.Row{promised(n, ballot)}, len(who))
			leads = append(leads,
				[]impl.Lead{preLead(at, ballot, asked, a, a, true, who...)}, []impl.Lead{preLead(at, ballot, asked, a, b, false, who...)},
				[]impl.Lead{accLead(at, ballot, asked, a, who...)}, []impl.Lead{prepLead(at, ballot, seen, who...)}, []impl.Lead{prepLead(at, ballot, none, who...)},
			)
		}
	}
	return leads
}

// msgsAt is messages from replica 0 to 1 of all kinds.
func msgsAt(n int, at instance, a, b impl.Attr) []impl.Msg {
	var msgs []impl.Msg
	none := emptyRow(n).Attr
	of := func(kind, ballot int, c impl.Cmd, a impl.Attr) impl.Msg {
		return msg(kind, 0, 1, at[0], at[1], ballot, c, cloneAttr(a))
	}
	for _, ballot := range []int{0, 8, 9, 10, 17, 9999} {
		pre, acc := of(impl.MsPrepOk, ballot, asked, a), of(impl.MsPrepOk, ballot, asked, a)
		pre.State, acc.State, acc.Vote = impl.RwPre, impl.RwAcc, ballot
		msgs = append(msgs, pre, acc, of(impl.MsPrepOk, ballot, impl.Cmd{}, none),
			of(impl.MsPre, ballot, moved, b), of(impl.MsAcc, ballot, moved, b),
			of(impl.MsPreOk, ballot, impl.Cmd{}, a), of(impl.MsPreOk, ballot, impl.Cmd{}, b),
			of(impl.MsAccOk, ballot, impl.Cmd{}, none), of(impl.MsPrep, ballot, impl.Cmd{}, none))
	}
	return append(msgs, of(impl.MsCom, 0, moved, b))
}
