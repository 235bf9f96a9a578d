package tests

import (
	"math"
	"slices"
	"testing"

	"loop.example/g00698/impl"
)

// healArgs is args as said: nets to which steps lead, and ones to which none do.
func (m *mixer) healArgs(n int) healArgs {
	a := healArgs{n: n, members: numbersIn(1 + m.next(1<<n-1)), rounds: m.pick(0, 1, 2, 5, 60)}
	switch m.next(4) {
	case 0:
		a.x = m.net(n)
	case 1:
		a.x = m.safeNet(n)
		a.x.Bag = cloneMsgs(fullMsgs(n))
	default:
		a.x = m.played(n)
	}
	return a
}

func someHealArgs(count int) []healArgs {
	m := mixer(211)
	var all []healArgs
	for _, n := range groups {
		for range count {
			all = append(all, m.healArgs(n))
		}
		all = append(all, healArgs{n, fullNet(n), numbersBelow(n), 60}, healArgs{n, emptyNet(n), []int{n - 1}, 60})
	}
	return all
}

// badHealArgs is args of which few are as said.
func badHealArgs(count int) []healArgs {
	m := mixer(223)
	var all []healArgs
	for _, n := range groups {
		badX, badM := badNets(n), badMembers(n)
		for i := range count {
			a := m.healArgs(n)
			switch i % 5 {
			case 0:
				a.x = cloneNet(badX[m.next(len(badX))])
			case 1:
				a.members = badM[m.next(len(badM))]
			case 2:
				a.members = nil
				for range m.next(n + 2) {
					a.members = append(a.members, m.pick(oddNumbers...))
				}
			case 3:
				a.rounds = m.pick(math.MinInt, -60, -1, 61, 62, 1000, 1<<32, 1+1<<32, math.MaxInt)
			case 4:
				a.n = append(noGroups, 8-n)[m.next(len(noGroups)+1)]
			}
			all = append(all, a)
		}
	}
	return all
}

func checkHealAnswers(t *testing.T, a healArgs) {
	t.Helper()
	before := a.clone()
	if got, want := a.answers(), before.plainAnswers(); !got.same(want) {
		t.Error("chapter 13 of", a, "came", got, "not", want)
	}
	if !a.same(before) {
		t.Error("the arguments became", a, "were", before)
	}
}

func TestPromise22Chapter13AcceptsAll(t *testing.T) {
	for _, a := range append(someHealArgs(80), badHealArgs(200)...) {
		checkHealAnswers(t, a)
	}
	for _, x := range []impl.Net{{}, {Reps: make([]impl.Replica, 3)}, {Reps: make([]impl.Replica, 5)}, {Bag: make([]impl.Msg, 1)}, {Asked: make([]impl.Asked, 1)}} {
		for i, members := range [][]int{nil, {}, {0}, {0, 1}, {0, 1, 2}, {math.MinInt}, {math.MaxInt}, numbersBelow(5), make([]int, 1<<16)} {
			for _, number := range oddNumbers {
				checkHealAnswers(t, healArgs{number, x, members, 60 * (i % 2)})
				checkHealAnswers(t, healArgs{3 + 2*(i%2), x, members, number})
			}
		}
	}
}

// healFields is all numbers of args.
func (a *healArgs) healFields() []*int {
	fields := append(numbersOfNet(&a.x), &a.n, &a.rounds)
	for place := range a.members {
		fields = append(fields, &a.members[place])
	}
	return fields
}

// TestPromise22Chapter13OfEachField changes each number of a small net alone, and
// one in 23 of a full one.
func TestPromise22Chapter13OfEachField(t *testing.T) {
	odd := []int{math.MinInt, -1, 0, 1, 2, 3, 4, 6, 7, 60, 61, 999, 1000, 9999, 10000, 1 << 32, math.MaxInt}
	for _, n := range groups {
		first, second := instance{0, 1}, instance{2, 1}
		small := healArgs{n, netOfHeld(n, []impl.Asked{askedOf(0, 1, moved)}, held{first, preRow(moved, 1, noDeps(n)...), []int{0, 2}}, held{second, com(asked, 2, depsOn(n, first)...), []int{2}}), []int{0, 2}, 2}
		small.x.Bag = []impl.Msg{msg(impl.MsPre, 0, 2, 0, 1, 0, moved, attr(1, noDeps(n)...)), idleFrom(n, 2, 0, 8)}
		full := healArgs{n, fullNet(n), numbersBelow(n), 1}
		for i, a := range []healArgs{small, full} {
			for place, field := range a.healFields() {
				if i > 0 && place%23 != n%23 {
					continue
				}
				was := *field
				for _, number := range odd {
					*field = number
					checkHealAnswers(t, a)
				}
				*field = was
			}
		}
	}
}

func TestPromise22Chapter13OfFewChanges(t *testing.T) {
	for _, n := range groups {
		m := mixer(227 + n)
		for range 150 {
			a := m.healArgs(n)
			fields := a.healFields()
			for range 1 + m.next(2) {
				*fields[max(m.next(len(fields)), m.pick(0, len(fields)-1-m.next(3)))] = m.pick(oddNumbers...)
			}
			checkHealAnswers(t, a)
		}
	}
}

// TestPromise22Chapter13OfListLengths is of lists that are nil, cut off or too
// long.
func TestPromise22Chapter13OfListLengths(t *testing.T) {
	for _, n := range groups {
		from := healArgs{n, fullNet(n), []int{0, 1}, 3}
		more := []func(*impl.Net){
			func(x *impl.Net) { x.Bag = nil },
			func(x *impl.Net) { x.Bag = slices.Repeat(x.Bag[:1], 80) },
			func(x *impl.Net) { x.Bag = slices.Repeat(x.Bag[:1], 81) },
			func(x *impl.Net) { x.Reps[1].Leads = nil },
			func(x *impl.Net) { x.Reps[1].Leads[0].Who = nil },
		}
		for _, change := range append(lengthChanges(n), more...) {
			a := from.clone()
			change(&a.x)
			checkHealAnswers(t, a)
		}
	}
}

func TestPromise22Chapter13KeepsArguments(t *testing.T) {
	for i, a := range append(someHealArgs(60), badHealArgs(60)...) {
		plain, want := a.clone(), a.answers()
		behind, rest := rowBehind(a.x, i), i%4-1
		long := a
		long.x, long.members = netWithHidden(a.x, rest, behind), withHidden(a.members, rest)
		if got := long.answers(); !got.same(want) {
			t.Error("reads behind a length:", a, got, "not", want)
		}
		checkNetKept(t, long.x, plain.x, rest, behind)
		checkKept(t, "the members", long.members, plain.members, rest)
		if !a.same(plain) {
			t.Error("the arguments became", a, "were", plain)
		}
	}
}

func TestPromise22Chapter13IsNewMemory(t *testing.T) {
	for _, a := range someHealArgs(60) {
		given, want := a.clone(), a.answers()
		var m netMemory
		m.addNets(given.x)
		m.numbers = append(m.numbers, given.members)
		for range 2 {
			got := given.answers()
			if !got.same(want) {
				t.Error("differs at another call:", a, got, "not", want)
			}
			m.addNets(got.talked, got.healed.Net)
		}
		m.check(t, "chapter 13")
		if again := a.answers(); !again.same(want) {
			t.Error("differs at a later call:", a, again, "not", want)
		}
	}
}

func TestPromise22Chapter13HandsOutNothingBehindALength(t *testing.T) {
	for _, a := range someHealArgs(60) {
		got := a.answers()
		checkNetBehindIsZero(t, got.talked)
		checkNetBehindIsZero(t, got.healed.Net)
	}
}
