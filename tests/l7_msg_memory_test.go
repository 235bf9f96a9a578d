package tests

import (
	"math"
	"slices"
	"testing"

	"loop.example/g00698/impl"
)

// msgAnswers is what all functions answer of one message, SameMsg of it and
// another one.
type msgAnswers struct {
	isGood bool
	text   string
	isText bool
	isSame bool
}

func msgAnswersOf(n int, m, other impl.Msg) msgAnswers {
	var a msgAnswers
	a.isGood = impl.GoodMsg(n, m)
	a.text, a.isText = impl.MsgText(n, m)
	a.isSame = impl.SameMsg(m, other)
	return a
}

func TestPromise22Chapter7KeepsArguments(t *testing.T) {
	// 9 behind the length would make Deps bad ones, 5 and 0 might pass for some.
	for _, rest := range []int{9, 5, 0} {
		for _, n := range groups {
			msgs := append(badMsgs(n), fullMsgs(n)...)
			for i, m := range msgs {
				checkMsgKept(t, n, m, msgs[(7*i+3)%len(msgs)], rest)
				checkMsgKept(t, n, m, m, rest)
			}
		}
	}
}

// checkMsgKept reports where a function writes to a message that it is given,
// or where what stands behind the length of Deps shows in its answer.
func checkMsgKept(t *testing.T, n int, m, other impl.Msg, rest int) {
	t.Helper()
	long, longOther := m, other
	long.Attr.Deps = withHidden(m.Attr.Deps, rest)
	longOther.Attr.Deps = withHidden(other.Attr.Deps, rest+1)
	got, want := msgAnswersOf(n, long, longOther), msgAnswersOf(n, m, other)
	if got != want {
		t.Error("reads behind a length:", n, m, other, got, "not", want)
	}
	checkKept(t, "chapter 7", long.Attr.Deps, m.Attr.Deps, rest)
	checkKept(t, "SameMsg", longOther.Attr.Deps, other.Attr.Deps, rest+1)
}

func TestPromise22ReadMsgIsNewMemory(t *testing.T) {
	for _, n := range groups {
		for i, m := range append(fullMsgs(n), someMsgs(n)...) {
			text, _ := impl.MsgText(n, m)
			first, _, _ := impl.ReadMsg(n, text)
			second, _, _ := impl.ReadMsg(n, text)
			given := cloneMsg(m)
			checkNoneShared(t, "ReadMsg", [][]int{given.Attr.Deps, first.Attr.Deps, second.Attr.Deps})
			if got, code, ok := impl.ReadMsg(n, text); !plainSameMsg(got, m) || code != 0 || !ok {
				t.Error("ReadMsg differs at a later call:", n, i, text, got, code, ok)
			}
			if !impl.GoodMsg(n, m) {
				t.Error("no longer good:", n, m)
			}
		}
	}
}

func TestPromise22Chapter7AcceptsAll(t *testing.T) {
	numbers := slices.Concat([]int{0, 1, 1, 2, 2, 3, 4, 5, 6, 7, 8, 17, 999, 9999, 10000}, []int{math.MinInt, -1, 1 << 32, math.MaxInt})
	lists := [][]int{nil, {}, {0}, {0, 0, 0}, {0, 1, 6}, {0, 1, 7}, {0, 0, 0, 0, 0}, {6, 5, 4, 3, 2}, {6, 5, -1, 3, 2}, numbers, slices.Repeat(numbers, 50)}
	cmds := append(badCmds(), someCmds([]int{1, 999}, []int{1, 1000})...)
	mix := mixer(7)
	for range 20000 {
		m := impl.Msg{Cmd: cmds[mix.next(len(cmds))], Attr: attr(numbers[mix.next(len(numbers))], lists[mix.next(len(lists))]...)}
		for _, field := range fieldsOf(&m)[:8] {
			*field = numbers[mix.next(len(numbers))]
		}
		for _, n := range append(groups, noGroups...) {
			checkMsgAnswers(t, n, m)
		}
	}
}

func TestPromise22Chapter7OfFewChanges(t *testing.T) {
	numbers := []int{math.MinInt, -1, 0, 1, 2, 3, 4, 5, 6, 7, 8, 17, 9999, 10000, 1 << 32, math.MaxInt}
	for _, n := range groups {
		mix := mixer(n)
		for _, m := range fullMsgs(n) {
			for range 3000 {
				changed := cloneMsg(m)
				fields := fieldsOf(&changed)
				for range 1 + mix.next(3) {
					*fields[mix.next(len(fields))] = numbers[mix.next(len(numbers))]
				}
				checkMsgAnswers(t, n, changed)
			}
		}
	}
}

// checkMsgAnswers reports where the functions do not agree on whether a message
// is good, and where an answer beside a false is not the zero answer.
func checkMsgAnswers(t *testing.T, n int, m impl.Msg) {
	t.Helper()
	a := msgAnswersOf(n, m, m)
	if want := plainGoodMsg(n, m); a.isGood != want || a.isText != want {
		t.Error("good:", n, m, a, "not", want)
	}
	if !a.isSame {
		t.Error("not the same as itself:", m)
	}
	if !a.isText {
		if a.text != "" {
			t.Error("not the zero answer:", n, m, a)
		}
		return
	}
	if got, code, ok := impl.ReadMsg(n, a.text); a.text != plainMsgText(m) || !plainSameMsg(got, m) || code != 0 || !ok {
		t.Error("not read back:", n, m, a, got, code, ok)
	}
}
