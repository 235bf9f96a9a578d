package tests

import (
	"math"
	"slices"
	"testing"

	"loop.example/g00698/impl"
)

var oddSums = []int{math.MinInt, -400, -100, -1, 0, 1, 99, 100, 101, 200, 300, 400, 401, 1 << 32, 1 << 62, math.MaxInt}

var oddFields = []int{math.MinInt, -1, 0, 1, 2, 3, 4, 999, 1000, 1001, 1 << 32, math.MaxInt}

// ledgerArgs is args as said.
func (m *mixer) ledgerArgs() ledgerArgs {
	a := ledgerArgs{sums: m.ledgerSums(), c: m.ledgerCmd(1), a: m.ledgerCmds(m.pick(0, 1, 2, 5, 8, 20, 59, 60))}
	a.a = withoutNones(a.a)
	a.b, _ = m.exchange(a.a, 20)
	return a
}

func someLedgerArgs(count int) []ledgerArgs {
	m := mixer(111)
	var all []ledgerArgs
	for range count {
		all = append(all, m.ledgerArgs())
	}
	return all
}

// badLedgerArgs is args of which few are as said.
func badLedgerArgs(count int) []ledgerArgs {
	m, badL, badC := mixer(113), badSums(), badCmds()
	var all []ledgerArgs
	for i := range count {
		a := m.ledgerArgs()
		switch i % 5 {
		case 0:
			a.sums = slices.Clone(badL[m.next(len(badL))])
		case 1:
			a.c = badC[m.next(len(badC))]
		case 2:
			a.a = slices.Insert(a.a, m.next(len(a.a)+1), badC[m.next(len(badC))])
		case 3:
			a.b = slices.Insert(a.b, m.next(len(a.b)+1), badC[m.next(len(badC))])
		case 4:
			a.a = slices.Repeat(append(a.a, impl.Cmd{}), 61)
			a.sums = nil
			for range m.next(7) {
				a.sums = append(a.sums, m.pick(oddSums...))
			}
		}
		all = append(all, a)
	}
	return all
}

// checkLedgerAnswers reports where an answer is not the one that the document
// says.
func checkLedgerAnswers(t *testing.T, a ledgerArgs) {
	t.Helper()
	if got, want := a.answers(), a.plainAnswers(); !got.same(want) {
		t.Error("chapter 11 of", a, got, "not", want)
	}
}

func TestPromise22Chapter11AcceptsAll(t *testing.T) {
	for _, a := range append(someLedgerArgs(500), badLedgerArgs(2000)...) {
		checkLedgerAnswers(t, a)
	}
	lists := [][]impl.Cmd{nil, {}, {{}}, make([]impl.Cmd, 60), make([]impl.Cmd, 61), make([]impl.Cmd, 1<<16), {{Kind: 3}}, {{Kind: -1}}}
	for _, sums := range [][]int{nil, {}, {400}, make([]int, 4), make([]int, 1<<16)} {
		for _, first := range lists {
			for _, second := range lists {
				checkLedgerAnswers(t, ledgerArgs{sums: sums, a: first, b: second})
			}
		}
	}
}

func TestPromise22Chapter11OfAllSums(t *testing.T) {
	for _, first := range oddSums {
		for _, second := range oddSums {
			for _, third := range oddSums {
				for _, fourth := range oddSums {
					checkLedgerAnswers(t, ledgerArgs{sums: []int{first, second, third, fourth}, c: move(1, 2, 1, 99)})
				}
			}
		}
	}
}

func TestPromise22Chapter11OfAllCmds(t *testing.T) {
	for _, kind := range []int{math.MinInt, -1, 0, 1, 2, 3, 1 << 32, math.MaxInt} {
		for _, id := range oddFields {
			for _, from := range oddFields {
				for _, to := range oddFields {
					for _, amount := range oddFields {
						c := impl.Cmd{Kind: kind, Id: id, From: from, To: to, Amount: amount}
						checkLedgerAnswers(t, ledgerArgs{sums: atFirst, c: c, a: []impl.Cmd{read(7, 2), c}, b: []impl.Cmd{c, read(7, 2)}})
					}
				}
			}
		}
	}
}

// TestPromise22Chapter11OfEachField changes each number of args as said alone.
func TestPromise22Chapter11OfEachField(t *testing.T) {
	for _, given := range someLedgerArgs(30) {
		a := given.clone()
		var fields []*int
		for account := range a.sums {
			fields = append(fields, &a.sums[account])
		}
		for _, list := range [][]impl.Cmd{a.a, a.b} {
			for i := range list {
				for field := range 5 {
					fields = append(fields, fieldOfCmd(&list[i], field))
				}
			}
		}
		for field := range 5 {
			fields = append(fields, fieldOfCmd(&a.c, field))
		}
		for _, field := range fields {
			was := *field
			for _, number := range append(oddFields, was-1, was+1) {
				*field = number
				checkLedgerAnswers(t, a)
			}
			*field = was
		}
	}
}

func TestPromise22Chapter11KeepsArguments(t *testing.T) {
	rests := []impl.Cmd{{}, move(1, 0, 1, 100), {Kind: 9}, read(2, 3)}
	for i, a := range append(someLedgerArgs(400), badLedgerArgs(500)...) {
		plain, want := a.clone(), a.answers()
		number, rest, otherRest := i%3*100-100, rests[i%4], rests[i/4%4]
		long := ledgerArgs{withHidden(a.sums, number), a.c, withHidden(a.a, rest), withHidden(a.b, otherRest)}
		if got := long.answers(); !got.same(want) {
			t.Error("reads behind a length:", a, got, "not", want)
		}
		checkKept(t, "the sums", long.sums, plain.sums, number)
		checkKept(t, "the first commands", long.a, plain.a, rest)
		checkKept(t, "the second commands", long.b, plain.b, otherRest)
		if !slices.Equal(a.sums, plain.sums) || !slices.Equal(a.a, plain.a) || !slices.Equal(a.b, plain.b) {
			t.Error("the arguments became", a, "were", plain)
		}
	}
}

// TestPromise22Chapter11OfMissingSums is of lists that are sums only with what
// stands behind their length.
func TestPromise22Chapter11OfMissingSums(t *testing.T) {
	for count := range 4 {
		long := slices.Clone(atFirst)
		if l := long[:count]; impl.GoodSums(l) {
			t.Error("good:", l)
		} else {
			checkNotApplied(t, l, impl.Cmd{})
		}
	}
	long := append(slices.Clone(atFirst), -7)
	checkApplied(t, long[:4], move(1, 0, 1, 5), []int{95, 105, 100, 100}, told(codeDone))
	if !slices.Equal(long, []int{100, 100, 100, 100, -7}) {
		t.Error("the argument became", long)
	}
}

func TestPromise22Chapter11IsNewMemory(t *testing.T) {
	for _, a := range someLedgerArgs(300) {
		given, want := a.clone(), a.answers()
		numbers := [][]int{given.sums}
		toldLists := [][]impl.Told{}
		for range 2 {
			got := given.answers()
			if !got.same(want) {
				t.Error("differs at another call:", a, got, "not", want)
			}
			numbers = append(numbers, got.fresh, got.after, got.played)
			toldLists = append(toldLists, got.toldAll)
		}
		checkNoneShared(t, "chapter 11", numbers)
		checkApart(t, "PlayCmds", toldLists, func(one *impl.Told) *int { return &one.Code })
		checkApart(t, "PlayCmds", toldLists, func(one *impl.Told) *int { return &one.Sum })
		if again := a.answers(); !again.same(want) {
			t.Error("differs at a later call:", a, again, "not", want)
		}
	}
}

func TestPromise22NewSumsIsNewMemory(t *testing.T) {
	first := impl.NewSums()
	first[0], first[3] = 0, 200
	second := impl.NewSums()
	if !slices.Equal(second, atFirst) || !slices.Equal(first, []int{0, 100, 100, 200}) {
		t.Error("NewSums twice:", first, second)
	}
	checkNoneShared(t, "NewSums", [][]int{first, second})
	if third := impl.NewSums(); !slices.Equal(third, atFirst) {
		t.Error("NewSums differs at a later call:", third)
	}
}

func TestPromise22Chapter11HandsOutNothingBehindALength(t *testing.T) {
	for _, a := range someLedgerArgs(200) {
		r := ledgerArgs{withHidden(a.sums, 77), a.c, withHidden(a.a, move(7, 0, 1, 77)), a.b}.answers()
		for _, list := range [][]int{r.fresh, r.after, r.played} {
			for _, number := range list[len(list):cap(list)] {
				if number != 0 {
					t.Error("a number behind the length of a list:", number)
				}
			}
		}
		for _, one := range r.toldAll[len(r.toldAll):cap(r.toldAll)] {
			if one != (impl.Told{}) {
				t.Error("what is told behind the length of a list:", one)
			}
		}
	}
}
