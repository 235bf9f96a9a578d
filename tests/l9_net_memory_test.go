package tests

import (
	"math"
	"slices"
	"testing"

	"loop.example/g00698/impl"
)

// netArgs is what the functions of chapter 9 are given.
type netArgs struct {
	n     int
	x     impl.Net
	s     impl.Step
	to    int
	steps []impl.Step
}

// netAnswers is what all of them answer of it: nets are a new one, and those of
// a step, of playing and of delivering.
type netAnswers struct {
	isGood  bool
	nets    [4]impl.Net
	wasDone []bool
	numbers []int
	taken   int
	isDone  [5]bool
}

func (a netArgs) answers() netAnswers {
	var got netAnswers
	got.isGood = impl.GoodNet(a.x)
	got.nets[0], got.isDone[0] = impl.NewNet(a.n)
	got.nets[1], got.isDone[1] = impl.StepNet(a.x, a.s)
	got.nets[2], got.wasDone, got.isDone[2] = impl.PlayNet(a.n, a.steps)
	got.nets[3], got.taken, got.isDone[3] = impl.DeliverAll(a.x)
	got.numbers, got.isDone[4] = impl.BagFor(a.x, a.to)
	return got
}

// plainAnswers is the same as the plain functions tell it.
func (a netArgs) plainAnswers() netAnswers {
	var want netAnswers
	want.isGood = plainGoodNet(a.x)
	if slices.Contains(groups, a.n) {
		want.nets[0], want.isDone[0] = emptyNet(a.n), true
	}
	want.nets[1], want.isDone[1] = plainStep(a.x, a.s)
	want.nets[2], want.wasDone, want.isDone[2] = plainPlay(a.n, a.steps)
	want.nets[3], want.taken, want.isDone[3] = plainDeliver(a.x)
	want.numbers, want.isDone[4] = plainBagFor(a.x, a.to)
	return want
}

func (a netAnswers) same(b netAnswers) bool {
	for i := range a.nets {
		if !sameNet(a.nets[i], b.nets[i]) {
			return false
		}
	}
	return a.isGood == b.isGood && a.isDone == b.isDone && a.taken == b.taken &&
		slices.Equal(a.wasDone, b.wasDone) && slices.Equal(a.numbers, b.numbers)
}

func (a netArgs) clone() netArgs {
	a.x, a.steps = cloneNet(a.x), slices.Clone(a.steps)
	return a
}

func (a netArgs) same(b netArgs) bool {
	return sameNet(a.x, b.x) && slices.Equal(a.steps, b.steps)
}

// goodNetArgs is args as said, most of them such that something is done.
func (m *mixer) goodNetArgs(n int) netArgs {
	a := netArgs{n: n, x: m.net(n), to: m.next(n)}
	a.s = m.netStep(a.x, impl.MaxRow, m.next(2) == 0)
	x := emptyNet(n)
	for range m.pick(0, 1, 5, 20) {
		s := m.netStep(x, impl.MaxRow, false)
		if y, ok := plainGoodStep(x, s); ok {
			x = y
		}
		a.steps = append(a.steps, s)
	}
	if m.next(2) == 0 {
		// These are nets to which steps lead.
		a.x = x
		a.s = m.netStep(x, impl.MaxRow, false)
	}
	return a
}

func someNetArgs(count int) []netArgs {
	m := mixer(53)
	var all []netArgs
	for _, n := range groups {
		for range count {
			all = append(all, m.goodNetArgs(n))
		}
		full := m.goodNetArgs(n)
		full.x, full.s = fullNet(n), submitAt(n-1, moved)
		all = append(all, full)
		x, steps := doable(n)
		for _, s := range steps {
			all = append(all, netArgs{n: n, x: x, s: s, to: 0, steps: steps})
		}
	}
	return all
}

// badNetArgs is args of which few are as said.
func badNetArgs(count int) []netArgs {
	m := mixer(59)
	var all []netArgs
	for _, n := range groups {
		bad := badNets(n)
		for i := range count {
			a := m.goodNetArgs(n)
			switch i % 5 {
			case 0:
				a.x = cloneNet(bad[m.next(len(bad))])
			case 1:
				a.s = m.oddStep()
			case 2:
				a.to = m.pick(oddNumbers...)
			case 3:
				a.n = append(noGroups, 8-n)[m.next(len(noGroups)+1)]
			case 4:
				for range m.pick(5, 99, 100, 101, 1000) {
					a.steps = append(a.steps, m.oddStep())
				}
			}
			all = append(all, a)
		}
	}
	return all
}

func checkNetAnswers(t *testing.T, a netArgs) {
	t.Helper()
	before := a.clone()
	if got, want := a.answers(), before.plainAnswers(); !got.same(want) {
		t.Error("of", a, "came", got, "not", want)
	}
	if !a.same(before) {
		t.Error("the arguments became", a, "were", before)
	}
}

func TestPromise22Chapter9AcceptsAll(t *testing.T) {
	for _, a := range slices.Concat(someNetArgs(150), badNetArgs(400)) {
		checkNetAnswers(t, a)
	}
}

// numbersOfNet is all numbers of a net.
func numbersOfNet(x *impl.Net) []*int {
	var numbers []*int
	for i := range x.Reps {
		numbers = append(numbers, numbersOfReplica(&x.Reps[i])...)
	}
	for i := range x.Bag {
		numbers = append(numbers, fieldsOf(&x.Bag[i])...)
	}
	for i := range x.Asked {
		one := &x.Asked[i]
		numbers = append(numbers, &one.Rep, &one.No, &one.Cmd.Kind, &one.Cmd.Id, &one.Cmd.From, &one.Cmd.To, &one.Cmd.Amount)
	}
	return numbers
}

// TestPromise22Chapter9OfEachField changes each number of a bag and of what was
// asked alone, and of those of the replicas, of which chapter 8 has such a test,
// one in eleven.
func TestPromise22Chapter9OfEachField(t *testing.T) {
	for _, n := range groups {
		x := fullNet(n)
		reps := netOf(x.Reps, nil)
		ofReplicas := len(numbersOfNet(&reps))
		for i, number := range numbersOfNet(&x) {
			if i < ofReplicas && i%11 != 0 {
				continue
			}
			was := *number
			for _, other := range []int{math.MinInt, -1, 0, 1, 2, 3, 7, 1000, 10000, math.MaxInt} {
				*number = other
				want := plainGoodNet(x)
				if got := impl.GoodNet(x); got != want {
					t.Error("GoodNet", x, got)
				}
				_, isStep := impl.StepNet(x, stepAt(impl.NtLose, 0))
				if _, isBag := impl.BagFor(x, 1); isStep != want || isBag != want {
					t.Error("good:", want, "but step", isStep, "bag", isBag, x)
				}
			}
			*number = was
		}
	}
}

func TestPromise22Chapter9OfFewChanges(t *testing.T) {
	for _, n := range groups {
		m := mixer(n)
		for range 300 {
			a := m.goodNetArgs(n)
			fields := append(numbersOfNet(&a.x), &a.n, &a.to, &a.s.Kind, &a.s.At, &a.s.Rep, &a.s.No, &a.s.Cmd.Kind, &a.s.Cmd.Id)
			for range 1 + m.next(2) {
				// Those of the net are many, and the others stand behind them.
				*fields[max(m.next(len(fields)), m.pick(0, len(fields)-1-m.next(8)))] = m.pick(oddNumbers...)
			}
			checkNetAnswers(t, a)
		}
	}
}

// netWithHidden has, behind the length of its lists, what would show in an
// answer, or make the net a bad one.
func netWithHidden(x impl.Net, rest int, behind impl.Row) impl.Net {
	long := netOf(withHidden(x.Reps, hiddenReplica), withHidden(x.Bag, hiddenMsg(len(x.Reps))), withHidden(x.Asked, hiddenAsked)...)
	for i, r := range x.Reps {
		long.Reps[i] = replicaWithHidden(r, rest, behind)
	}
	for i, m := range x.Bag {
		long.Bag[i].Attr.Deps = withHidden(m.Attr.Deps, rest)
	}
	return long
}

var hiddenReplica = impl.Replica{Me: 3, Table: impl.Table{N: 3, Rows: make([][]impl.Row, 3)}}

var hiddenAsked = askedOf(0, 1, moved)

func hiddenMsg(n int) impl.Msg {
	return msg(impl.MsPre, 0, 1, 0, 1, 0, moved, attr(1, make([]int, n)...))
}

// checkNetKept reports where got, made by netWithHidden(want, rest, behind), was
// written to.
func checkNetKept(t *testing.T, got, want impl.Net, rest int, behind impl.Row) {
	t.Helper()
	if !sameNet(got, want) {
		t.Error("the argument became", got, "was", want)
		return
	}
	for i, r := range want.Reps {
		checkReplicaKept(t, got.Reps[i], r, rest, behind)
	}
	for i, m := range want.Bag {
		checkKept(t, "a message", got.Bag[i].Attr.Deps, m.Attr.Deps, rest)
	}
	reps, bag, asked := got.Reps[:len(got.Reps)+hidden], got.Bag[:len(got.Bag)+hidden], got.Asked[:len(got.Asked)+hidden]
	for i := range hidden {
		if !sameReplica(reps[len(got.Reps)+i], hiddenReplica) || !plainSameMsg(bag[len(got.Bag)+i], hiddenMsg(len(want.Reps))) || asked[len(got.Asked)+i] != hiddenAsked {
			t.Error("wrote behind a length of", want)
		}
	}
}

func TestPromise22Chapter9KeepsArguments(t *testing.T) {
	for i, a := range append(someNetArgs(200), badNetArgs(200)...) {
		plain, want := a.clone(), a.answers()
		n := len(a.x.Reps) % 8
		behinds := []impl.Row{
			{Ballot: 88, State: impl.RwAcc, Vote: 88, Cmd: move(1, 0, 1, 1), Attr: attr(999, slices.Repeat([]int{impl.MaxRow}, n)...)},
			{Ballot: 99, State: impl.RwPre, Cmd: move(2, 2, 3, 1), Attr: attr(1, make([]int, n)...)},
			{Ballot: -1},
		}
		behind, rest := behinds[i%3], i%4-1
		long := a
		long.x, long.steps = netWithHidden(a.x, rest, behind), withHidden(a.steps, submitAt(0, moved))
		if got := long.answers(); !got.same(want) {
			t.Error("reads behind a length:", a, got, "not", want)
		}
		checkNetKept(t, long.x, plain.x, rest, behind)
		for _, s := range long.steps[len(a.steps) : len(a.steps)+hidden] {
			if s != submitAt(0, moved) {
				t.Error("wrote a step behind the length of", plain.steps)
			}
		}
		if !slices.Equal(long.steps, plain.steps) || !a.same(plain) {
			t.Error("the arguments became", a, "were", plain)
		}
	}
}

// netMemory gathers the lists of what may share none of them.
type netMemory struct {
	replicaMemory
	reps  [][]impl.Replica
	asked [][]impl.Asked
	steps [][]impl.Step
}

func (m *netMemory) addNets(nets ...impl.Net) {
	for _, x := range nets {
		m.reps, m.asked = append(m.reps, x.Reps), append(m.asked, x.Asked)
		m.addReplicas(x.Reps...)
		m.addMsgs(x.Bag)
	}
}

// check writes to all the memory of each list, up to its capacity, and reports
// where that shows in another one.
func (m *netMemory) check(t *testing.T, what string) {
	t.Helper()
	m.replicaMemory.check(t, what)
	checkApart(t, what+", replicas", m.reps, func(r *impl.Replica) *int { return &r.Me })
	checkApart(t, what+", asked", m.asked, func(one *impl.Asked) *int { return &one.No })
	checkApart(t, what+", steps", m.steps, func(s *impl.Step) *int { return &s.At })
}

func TestPromise22Chapter9IsNewMemory(t *testing.T) {
	for _, a := range someNetArgs(150) {
		given, want := a.clone(), a.answers()
		var m netMemory
		m.addNets(given.x)
		m.steps = append(m.steps, given.steps)
		first, second := given.answers(), given.answers()
		if !first.same(want) || !second.same(want) {
			t.Error("differs at another call:", a, first, second, "not", want)
		}
		for i := range first.wasDone {
			first.wasDone[i] = !first.wasDone[i]
		}
		if !slices.Equal(second.wasDone, want.wasDone) {
			t.Error("what was done shares memory:", a)
		}
		m.addNets(append(first.nets[:], second.nets[:]...)...)
		m.numbers = append(m.numbers, first.numbers, second.numbers)
		m.check(t, "chapter 9")
		if again := a.answers(); !again.same(want) {
			t.Error("differs at a later call:", a, again, "not", want)
		}
	}
}

// checkNetBehindIsZero reports what a net hands out behind a list's length.
func checkNetBehindIsZero(t *testing.T, x impl.Net) {
	t.Helper()
	for _, r := range x.Reps {
		checkBehindIsZero(t, r)
	}
	for _, r := range x.Reps[len(x.Reps):cap(x.Reps)] {
		if !sameReplica(r, impl.Replica{}) {
			t.Error("a replica behind the length of the replicas:", r)
		}
	}
	for _, m := range x.Bag[len(x.Bag):cap(x.Bag)] {
		if !isZeroMsg(m) {
			t.Error("a message behind the length of the bag:", m)
		}
	}
	for _, one := range x.Asked[len(x.Asked):cap(x.Asked)] {
		if one != (impl.Asked{}) {
			t.Error("behind the length of what was asked:", one)
		}
	}
}

func TestPromise22Chapter9HandsOutNothingBehindALength(t *testing.T) {
	for _, a := range someNetArgs(150) {
		for _, x := range a.answers().nets {
			checkNetBehindIsZero(t, x)
		}
	}
}
