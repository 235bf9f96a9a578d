package tests

import (
	"math/big"
	"slices"

	"loop.example/g00698/impl"
)

// What the document says of chapter 11, written out again in another way.

const codeNone, codeDone, codePoor, codeSum = 0, 1, 2, 3

func plainGoodSums(l []int) bool {
	total := new(big.Int)
	for _, sum := range l {
		if sum < 0 {
			return false
		}
		total.Add(total, big.NewInt(int64(sum)))
	}
	return len(l) == 4 && total.Cmp(big.NewInt(400)) == 0
}

func plainTotal(l []int) (int, bool) {
	if !plainGoodSums(l) {
		return 0, false
	}
	return 400, true
}

func plainApply(l []int, c impl.Cmd) ([]int, impl.Told, bool) {
	if !plainGoodSums(l) || !impl.GoodCmd(c) {
		return nil, impl.Told{}, false
	}
	after := slices.Clone(l)
	switch {
	case c.Kind == impl.CmNone:
		return after, impl.Told{Code: codeNone}, true
	case c.Kind == impl.CmRead:
		return after, impl.Told{Code: codeSum, Sum: l[c.From]}, true
	case l[c.From]-c.Amount < 0:
		return after, impl.Told{Code: codePoor}, true
	}
	after[c.From] = l[c.From] - c.Amount
	after[c.To] = l[c.To] + c.Amount
	return after, impl.Told{Code: codeDone}, true
}

func plainPlayCmds(l []impl.Cmd) ([]int, []impl.Told, bool) {
	if len(l) > 60 || slices.ContainsFunc(l, func(c impl.Cmd) bool { return !impl.GoodCmd(c) }) {
		return nil, nil, false
	}
	sums := []int{100, 100, 100, 100}
	var told []impl.Told
	for _, c := range l {
		var one impl.Told
		sums, one, _ = plainApply(sums, c)
		told = append(told, one)
	}
	return sums, told, true
}

// plainHasOnce tells whether each of the first list is in the second one just
// once.
func plainHasOnce(a, b []impl.Cmd) bool {
	for _, c := range a {
		count := 0
		for _, other := range b {
			if other == c {
				count++
			}
		}
		if count != 1 {
			return false
		}
	}
	return true
}

func plainTellsSame(a, b []impl.Cmd) (bool, bool) {
	firstSums, firstTold, areFirst := plainPlayCmds(a)
	secondSums, secondTold, areSecond := plainPlayCmds(b)
	if !areFirst || !areSecond || len(a) != len(b) || !plainHasOnce(a, b) || !plainHasOnce(b, a) {
		return false, false
	}
	for i, c := range a {
		if firstTold[i] != secondTold[slices.Index(b, c)] {
			return false, true
		}
	}
	return slices.Equal(firstSums, secondSums), true
}

// ledgerArgs is what the functions of chapter 11 are given: PlayCmds of the
// first list, TellsSame of both.
type ledgerArgs struct {
	sums []int
	c    impl.Cmd
	a, b []impl.Cmd
}

// ledgerAnswers is what they answer.
type ledgerAnswers struct {
	isGood    bool
	fresh     []int
	total     int
	isTotal   bool
	after     []int
	told      impl.Told
	isApplied bool
	played    []int
	toldAll   []impl.Told
	isPlayed  bool
	tellsSame bool
	areTwo    bool
}

func (a ledgerArgs) answers() ledgerAnswers {
	var r ledgerAnswers
	r.isGood = impl.GoodSums(a.sums)
	r.fresh = impl.NewSums()
	r.total, r.isTotal = impl.TotalOf(a.sums)
	r.after, r.told, r.isApplied = impl.ApplyCmd(a.sums, a.c)
	r.played, r.toldAll, r.isPlayed = impl.PlayCmds(a.a)
	r.tellsSame, r.areTwo = impl.TellsSame(a.a, a.b)
	return r
}

func (a ledgerArgs) plainAnswers() ledgerAnswers {
	var r ledgerAnswers
	r.isGood = plainGoodSums(a.sums)
	r.fresh = []int{100, 100, 100, 100}
	r.total, r.isTotal = plainTotal(a.sums)
	r.after, r.told, r.isApplied = plainApply(a.sums, a.c)
	r.played, r.toldAll, r.isPlayed = plainPlayCmds(a.a)
	r.tellsSame, r.areTwo = plainTellsSame(a.a, a.b)
	return r
}

func (r ledgerAnswers) same(other ledgerAnswers) bool {
	return r.isGood == other.isGood && slices.Equal(r.fresh, other.fresh) &&
		r.total == other.total && r.isTotal == other.isTotal &&
		slices.Equal(r.after, other.after) && r.told == other.told && r.isApplied == other.isApplied &&
		slices.Equal(r.played, other.played) && slices.Equal(r.toldAll, other.toldAll) && r.isPlayed == other.isPlayed &&
		r.tellsSame == other.tellsSame && r.areTwo == other.areTwo
}

func (a ledgerArgs) clone() ledgerArgs {
	return ledgerArgs{slices.Clone(a.sums), a.c, slices.Clone(a.a), slices.Clone(a.b)}
}
