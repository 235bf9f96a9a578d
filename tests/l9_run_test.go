package tests

import (
	"math"
	"slices"
	"testing"

	"loop.example/g00698/impl"
)

// player does steps in a net, and keeps them.
type player struct {
	t     *testing.T
	n     int
	x     impl.Net
	steps []impl.Step
	done  []bool
	// look, if there is one, is called after each step that is done.
	look func()
}

func newPlayer(t *testing.T, n int) *player {
	x, _ := impl.NewNet(n)
	return &player{t: t, n: n, x: x}
}

// try does a step, if it can be done, compares it with what the plain one does,
// and reports where the net is not good any more.
func (p *player) try(s impl.Step) bool {
	p.t.Helper()
	before := cloneNet(p.x)
	want, wantOk := plainGoodStep(before, s)
	got, ok := impl.StepNet(p.x, s)
	if ok != wantOk || !sameNet(got, want) {
		p.t.Errorf("%v of %q:\n%q, %v, not\n%q, %v", s, linesOf(before), linesOf(got), ok, linesOf(want), wantOk)
	}
	if !sameNet(p.x, before) {
		p.t.Error(s, "the argument became", p.x, "was", before)
	}
	if ok {
		p.x = got
		if !impl.GoodNet(got) || !plainGoodNet(got) {
			p.t.Error(s, "made a net that is not good:", got, "of", before)
		}
	}
	p.steps, p.done = append(p.steps, s), append(p.done, ok)
	if ok && p.look != nil {
		p.look()
	}
	return ok
}

func (p *player) must(steps ...impl.Step) {
	p.t.Helper()
	for _, s := range steps {
		if !p.try(s) {
			p.t.Fatal("not done:", s, linesOf(p.x))
		}
	}
}

// takeAll takes the first message again and again.
func (p *player) takeAll() {
	p.t.Helper()
	for len(p.x.Bag) > 0 {
		p.must(stepAt(impl.NtTake, 0))
	}
}

// each does a step of each message of a kind that is in the bag, the last first.
func (p *player) each(step, kind int) {
	p.t.Helper()
	for at, m := range slices.Backward(p.x.Bag) {
		if m.Kind == kind {
			p.must(stepAt(step, at))
		}
	}
}

// checkPlayed reports where PlayNet of all the steps tells something else.
func (p *player) checkPlayed() {
	p.t.Helper()
	if len(p.steps) > impl.MaxSteps {
		p.t.Fatal("too many steps:", len(p.steps))
	}
	if got, done, ok := impl.PlayNet(p.n, p.steps); !ok || !slices.Equal(done, p.done) || !sameNet(got, p.x) {
		p.t.Error("PlayNet", p.n, p.steps, got, done, ok, "not", p.x, p.done)
	}
}

func (p *player) deliver(count int) {
	p.t.Helper()
	got, taken, ok := impl.DeliverAll(p.x)
	want, wantTaken, _ := plainDeliver(p.x)
	if !ok || taken != wantTaken || taken != count || !sameNet(got, want) || len(got.Bag) != 0 {
		p.t.Error("DeliverAll", linesOf(p.x), linesOf(got), taken, ok, "not", linesOf(want), wantTaken, "nor", count)
	}
	p.x = got
}

// checkSettled reports replicas that have not committed that, or lead anything.
func (p *player) checkSettled(at instance, c impl.Cmd, a impl.Attr) {
	p.t.Helper()
	for me, r := range p.x.Reps {
		of := plainRow(r.Table, at)
		if of.State != impl.RwCom || of.Cmd != c || !plainSame(of.Attr, a) || len(r.Leads) != 0 {
			p.t.Errorf("replica %d: %q, not com|%s|%s", me, stateOf(r), plainText(c), plainAttrText(a))
		}
	}
}

func TestRunOfTwoCommands(t *testing.T) {
	for _, n := range groups {
		p := newPlayer(t, n)
		p.must(submitAt(0, moved))
		p.deliver(3 * (n - 1))
		p.must(submitAt(n-1, asked))
		p.deliver(3 * (n - 1))
		behind := attr(2, make([]int, n)...)
		behind.Deps[0] = 1
		p.checkSettled(instance{0, 1}, moved, attr(1, make([]int, n)...))
		p.checkSettled(instance{n - 1, 1}, asked, behind)
		if !slices.Equal(p.x.Asked, []impl.Asked{askedOf(0, 1, moved), askedOf(n-1, 1, asked)}) {
			t.Error("asked:", p.x.Asked)
		}
	}
}

// TestRunOfTwoAtOnce is of two that ask what interferes and what does not, none
// knowing of the other one.
func TestRunOfTwoAtOnce(t *testing.T) {
	for _, n := range groups {
		p := newPlayer(t, n)
		p.must(submitAt(0, moved), submitAt(n-1, asked))
		p.deliver(10 * (n - 1))
		first, last := attr(2, make([]int, n)...), attr(2, make([]int, n)...)
		first.Deps[n-1], last.Deps[0] = 1, 1
		p.checkSettled(instance{0, 1}, moved, first)
		p.checkSettled(instance{n - 1, 1}, asked, last)

		p = newPlayer(t, n)
		p.must(submitAt(0, moved), submitAt(n-1, other))
		p.deliver(6 * (n - 1))
		p.checkSettled(instance{0, 1}, moved, attr(1, make([]int, n)...))
		p.checkSettled(instance{n - 1, 1}, other, attr(1, make([]int, n)...))
	}
}

// TestRunOfAllSteps is of one command that is settled although the one that was
// asked forgets it: each kind of step is done.
func TestRunOfAllSteps(t *testing.T) {
	for _, n := range groups {
		p := newPlayer(t, n)
		p.must(submitAt(0, moved), stepAt(impl.NtTwice, 0), stepAt(impl.NtLose, n-2))
		if l, ok := impl.BagFor(p.x, 1); !ok || !slices.Equal(l, []int{0, n - 2}) {
			t.Error("to 1:", l, ok)
		}
		p.each(impl.NtTake, impl.MsPre)
		p.each(impl.NtTwice, impl.MsPreOk)
		p.each(impl.NtTake, impl.MsPreOk)
		p.must(stepOf(impl.NtHurry, 0, 0, 1), stepAt(impl.NtCrash, 0), stepAt(impl.NtLose, 0))
		// One of those that are asked has not heard of it, the others accept.
		p.each(impl.NtTake, impl.MsAcc)
		p.each(impl.NtTake, impl.MsAccOk)
		p.checkOpen(0, n-1)
		p.must(stepOf(impl.NtRecover, n-1, 0, 1))
		p.checkOpen(0, n-1)
		p.deliver(5 * (n - 1))
		p.checkSettled(instance{0, 1}, moved, attr(1, make([]int, n)...))
		p.must(submitAt(0, asked))
		p.deliver(3 * (n - 1))
		behind := attr(2, make([]int, n)...)
		behind.Deps[0] = 1
		p.checkSettled(instance{0, 2}, asked, behind)
		p.checkKinds()
	}
}

// checkOpen reports what is committed, and more leads than there may be.
func (p *player) checkOpen(leastLeads, mostLeads int) {
	p.t.Helper()
	leads := 0
	for me, r := range p.x.Reps {
		leads += len(r.Leads)
		if committed, _ := impl.Committed(r.Table); len(committed) != 0 {
			p.t.Error("replica", me, "has committed", committed)
		}
	}
	if leads < leastLeads || leads > mostLeads {
		p.t.Error(leads, "leads:", linesOf(p.x))
	}
}

// checkKinds reports kinds of which no step was done.
func (p *player) checkKinds() {
	p.t.Helper()
	for _, kind := range netKinds {
		if !slices.ContainsFunc(p.steps, func(s impl.Step) bool { return s.Kind == kind }) {
			p.t.Error("no step of kind", kind)
		}
	}
}

// TestRunOfNothing is of a command that all lose: what is recovered is none.
func TestRunOfNothing(t *testing.T) {
	for _, n := range groups {
		p := newPlayer(t, n)
		p.must(submitAt(0, moved))
		p.each(impl.NtLose, impl.MsPre)
		p.must(stepOf(impl.NtRecover, 1, 0, 1))
		// The one that was asked is not told until the others have settled.
		held := p.x.Bag[0]
		p.must(stepAt(impl.NtLose, 0))
		p.each(impl.NtTake, impl.MsPrep)
		p.each(impl.NtTake, impl.MsPrepOk)
		p.each(impl.NtTake, impl.MsAcc)
		p.each(impl.NtTake, impl.MsAccOk)
		p.each(impl.NtTake, impl.MsCom)
		if held.To != 0 || held.Kind != impl.MsPrep {
			t.Error("held:", held)
		}
		p.checkSettled(instance{0, 1}, impl.Cmd{}, attr(0, make([]int, n)...))
		if !slices.Equal(p.x.Asked, []impl.Asked{askedOf(0, 1, moved)}) {
			t.Error("asked:", p.x.Asked)
		}
		p.checkPlayed()
	}
}

// netStep is a step that can be done, most of the time. Where it fills the bag,
// more comes into that than is taken.
func (m *mixer) netStep(x impl.Net, instances int, fills bool) impl.Step {
	n := len(x.Reps)
	rep, at := m.next(n), instance{m.next(n), 1 + m.next(instances)}
	place := m.next(len(x.Bag) + 1)
	take := stepAt(impl.NtTake, min(place, m.next(20)))
	if !fills && len(x.Bag) > 0 && m.next(3) > 0 {
		return take
	}
	if fills && m.next(4) == 0 {
		return stepAt(impl.NtTwice, place)
	}
	switch what := m.next(24); {
	case what < 5:
		return submitAt(rep, mixedCmds[m.next(len(mixedCmds))])
	case what < 7:
		return stepOf(impl.NtRecover, rep, at[0], at[1])
	case what == 7:
		return stepOf(impl.NtHurry, rep, at[0], at[1])
	case what < 11:
		return m.hurryStep(x)
	case what == 11 && m.next(3) == 0:
		return stepAt(impl.NtCrash, rep)
	case what == 12:
		return m.oddStep()
	case what < 15:
		return stepAt(impl.NtLose, place)
	case what < 18:
		return stepAt(impl.NtTwice, place)
	}
	return take
}

// hurryStep is one that can be done, if there is any.
func (m *mixer) hurryStep(x impl.Net) impl.Step {
	steps := []impl.Step{stepOf(impl.NtHurry, 0, 0, 1)}
	for me, r := range x.Reps {
		for _, l := range r.Leads {
			s := stepOf(impl.NtHurry, me, l.Rep, l.No)
			if _, _, ok := plainHurry(r, l.Rep, l.No); ok {
				steps = append(steps, s)
			}
		}
	}
	return steps[m.next(len(steps))]
}

var oddNumbers = []int{math.MinInt, -1, 0, 0, 0, 1, 1, 2, 3, 4, 5, 6, 7, 8, 79, 80, 1 << 32, math.MaxInt}

// oddStep has in each field any number.
func (m *mixer) oddStep() impl.Step {
	s := impl.Step{Kind: m.pick(oddNumbers...), At: m.pick(oddNumbers...), Rep: m.pick(oddNumbers...), No: m.pick(oddNumbers...)}
	switch m.next(3) {
	case 0:
		s.Cmd = mixedCmds[m.next(len(mixedCmds))]
	case 1:
		s.Cmd = impl.Cmd{Kind: m.pick(oddNumbers...), Id: m.pick(oddNumbers...), From: m.pick(oddNumbers...), To: m.pick(oddNumbers...), Amount: m.pick(oddNumbers...)}
	}
	return s
}

// tally counts steps by kind that were done and that were not, and what came of
// them.
type tally struct {
	done, refused  map[int]int
	settled, fulls int
}

func newTally() tally {
	return tally{done: map[int]int{}, refused: map[int]int{}}
}

func (c *tally) count(s impl.Step, isDone bool) {
	if isDone {
		c.done[s.Kind]++
	} else {
		c.refused[s.Kind]++
	}
}

func (c *tally) check(t *testing.T, least int) {
	t.Helper()
	for _, kind := range netKinds {
		if c.done[kind] < least || c.refused[kind] < least && kind != impl.NtCrash {
			t.Error("of kind", kind, "were done", c.done[kind], "and refused", c.refused[kind])
		}
	}
}

func TestPromise9OfDrawnRuns(t *testing.T) {
	for _, n := range groups {
		c := newTally()
		for seed := range 40 {
			m, p := mixer(1000*n+seed), newPlayer(t, n)
			for range 250 {
				s := m.netStep(p.x, 1+seed%impl.MaxRow, seed%5 == 0)
				isFull := len(p.x.Bag) > impl.MaxBag-n+1
				isDone := p.try(s)
				c.count(s, isDone)
				if isFull && !isDone {
					c.fulls++
				}
			}
			g := group{t: t, n: n, reps: p.x.Reps}
			some, _ := g.checkAgree()
			c.settled += some
			p.checkDeliveries()
		}
		c.check(t, 20)
		if c.settled < 100 || c.fulls < 20 {
			t.Error("in groups of", n, "were settled", c.settled, "and refused of a full bag", c.fulls)
		}
	}
}

// checkDeliveries reports where BagFor and DeliverAll of the net tell something
// else than the plain ones.
func (p *player) checkDeliveries() {
	p.t.Helper()
	for to := range p.n {
		want, _ := plainBagFor(p.x, to)
		checkBagFor(p.t, p.x, to, want...)
	}
	want, count, _ := plainDeliver(p.x)
	checkDelivered(p.t, "a drawn run", p.x, count, want)
}

func TestPromise9OfDrawnPlays(t *testing.T) {
	for _, n := range groups {
		for seed := range 60 {
			m, p := mixer(2000*n+seed), newPlayer(t, n)
			for range m.pick(1, 10, 50, 99, 100) {
				p.try(m.netStep(p.x, 1+seed%impl.MaxRow, seed%5 == 0))
			}
			p.checkPlayed()
		}
	}
}

// TestPromise9OfDrawnNets is of steps of nets that no steps lead to.
func TestPromise9OfDrawnNets(t *testing.T) {
	for _, n := range groups {
		c := newTally()
		m := mixer(n)
		for range 150 {
			p := player{t: t, n: n, x: m.net(n)}
			for range 8 {
				s := m.netStep(p.x, impl.MaxRow, true)
				c.count(s, p.try(s))
			}
		}
		c.check(t, 5)
	}
}
