package tests

import (
	"fmt"
	"math"
	"slices"
	"strings"
	"testing"

	"loop.example/g00698/impl"
)

// badNos and badSeqs are numbers beyond the limits of Deps and of Seq.
var badNos = []int{math.MinInt, -1, 7, 8, 10, 1 << 32, 3 + 1<<32, math.MaxInt}

var badSeqs = []int{math.MinInt, -1, 1000, 1001, 9999, 1 << 32, 5 + 1<<32, math.MaxInt}

func attr(seq int, deps ...int) impl.Attr {
	return impl.Attr{Seq: seq, Deps: deps}
}

// eachDeps calls look with each list of n of the given numbers. It is one list
// that changes: look must copy what it keeps.
func eachDeps(n int, numbers []int, look func([]int)) {
	deps := make([]int, n)
	var fill func(at int)
	fill = func(at int) {
		if at == n {
			look(deps)
			return
		}
		for _, number := range numbers {
			deps[at] = number
			fill(at + 1)
		}
	}
	fill(0)
}

// someAttrs is good attributes of a group of n: those of few numbers in all
// combinations, and with each number at each place alone.
func someAttrs(n int) []impl.Attr {
	var attrs []impl.Attr
	for _, seq := range []int{0, 1, 999} {
		eachDeps(n, []int{0, 4, impl.MaxRow}, func(deps []int) {
			attrs = append(attrs, attr(seq, slices.Clone(deps)...))
		})
	}
	for rep := range n {
		for no := range impl.MaxRow + 1 {
			deps := make([]int, n)
			deps[rep] = no
			attrs = append(attrs, attr(500, deps...))
		}
	}
	return attrs
}

// badAttrs is attributes of which each is bad for a group of n, most of them
// in one number alone.
func badAttrs(n int) []impl.Attr {
	bad := []impl.Attr{{}, {Seq: 1}, attr(0, []int{}...)}
	for length := range 2 * n {
		if length != n {
			bad = append(bad, attr(2, make([]int, length)...))
		}
	}
	bad = append(bad, attr(2, make([]int, 1000)...))
	for _, seq := range badSeqs {
		bad = append(bad, attr(seq, make([]int, n)...))
	}
	for _, no := range badNos {
		for rep := range n {
			deps := slices.Repeat([]int{1}, n)
			deps[rep] = no
			bad = append(bad, attr(2, deps...))
		}
	}
	return bad
}

// plainAttrText is the text of a good attribute.
func plainAttrText(a impl.Attr) string {
	deps := strings.Trim(fmt.Sprint(a.Deps), "[]")
	return fmt.Sprintf("%d:%s", a.Seq, strings.ReplaceAll(deps, " ", ","))
}

// plainSame compares without the help of SameAttr.
func plainSame(a, b impl.Attr) bool {
	return a.Seq == b.Seq && slices.Equal(a.Deps, b.Deps)
}

func isZeroAttr(a impl.Attr) bool {
	return a.Seq == 0 && len(a.Deps) == 0
}

func cloneAttr(a impl.Attr) impl.Attr {
	return attr(a.Seq, slices.Clone(a.Deps)...)
}

func checkNotRead(t *testing.T, n int, text string) {
	t.Helper()
	if a, ok := impl.ReadAttr(n, text); ok || !isZeroAttr(a) {
		t.Errorf("ReadAttr %d %.60q: %v %v", n, text, a, ok)
	}
}

func TestMaxRow(t *testing.T) {
	if impl.MaxRow != 6 {
		t.Error("MaxRow is", impl.MaxRow)
	}
}

func TestGoodAttr(t *testing.T) {
	for _, n := range groups {
		for _, a := range someAttrs(n) {
			if !impl.GoodAttr(n, a) {
				t.Error("not good:", n, a)
			}
		}
		for seq := range 1000 {
			if !impl.GoodAttr(n, attr(seq, make([]int, n)...)) {
				t.Error("not good with Seq", seq)
			}
		}
		for _, a := range badAttrs(n) {
			if impl.GoodAttr(n, a) {
				t.Error("good:", n, a)
			}
		}
	}
}

func TestGoodAttrOfNoGroup(t *testing.T) {
	for _, n := range noGroups {
		for length := range 9 {
			if impl.GoodAttr(n, attr(2, make([]int, length)...)) {
				t.Error("good:", n, length)
			}
		}
	}
	if impl.GoodAttr(3, attr(1, 0, 0, 0, 0, 0)) || impl.GoodAttr(5, attr(1, 0, 0, 0)) {
		t.Error("good with the Deps of the other group")
	}
}

func TestNoneAttr(t *testing.T) {
	for _, n := range groups {
		if a, ok := impl.NoneAttr(n); !ok || !plainSame(a, attr(0, make([]int, n)...)) {
			t.Error("NoneAttr", n, a, ok)
		}
	}
	for _, n := range noGroups {
		if a, ok := impl.NoneAttr(n); ok || !isZeroAttr(a) {
			t.Error("NoneAttr", n, a, ok)
		}
	}
}

func TestJoinAttrWrittenOut(t *testing.T) {
	cases := []struct{ a, b, want impl.Attr }{
		{attr(2, 1, 0, 3), attr(1, 0, 2, 0), attr(2, 1, 2, 3)},
		{attr(0, 0, 0, 0), attr(0, 0, 0, 0), attr(0, 0, 0, 0)},
		{attr(999, 6, 0, 0), attr(0, 0, 0, 6), attr(999, 6, 0, 6)},
		{attr(0, 6, 6, 6), attr(999, 0, 0, 0), attr(999, 6, 6, 6)},
		{attr(7, 1, 2, 3), attr(7, 1, 2, 3), attr(7, 1, 2, 3)},
		{attr(3, 5, 1, 4), attr(4, 4, 2, 4), attr(4, 5, 2, 4)},
		{attr(9, 1, 2, 3, 4, 5), attr(8, 5, 4, 3, 2, 1), attr(9, 5, 4, 3, 4, 5)},
		{attr(0, 0, 0, 0, 0, 6), attr(1, 6, 0, 0, 0, 0), attr(1, 6, 0, 0, 0, 6)},
		{attr(998, 0, 0, 0, 1, 0), attr(999, 0, 1, 0, 0, 0), attr(999, 0, 1, 0, 1, 0)},
	}
	for _, c := range cases {
		for _, pair := range [][2]impl.Attr{{c.a, c.b}, {c.b, c.a}} {
			if got, ok := impl.JoinAttr(len(c.want.Deps), pair[0], pair[1]); !ok || !plainSame(got, c.want) {
				t.Error("JoinAttr", pair, got, ok)
			}
		}
	}
}

func TestPromise3JoinHangsOnAllOfBoth(t *testing.T) {
	for _, n := range groups {
		attrs := someAttrs(n)
		for i, a := range attrs {
			// A fifth of all pairs keeps the time short.
			for j := i % 5; j < len(attrs); j += 5 {
				checkUnion(t, n, a, attrs[j])
			}
		}
	}
}

// checkUnion reports where the join of a and b does not hang on just those
// instances on which one of both hangs.
func checkUnion(t *testing.T, n int, a, b impl.Attr) {
	t.Helper()
	joined, ok := impl.JoinAttr(n, a, b)
	if !ok || joined.Seq != max(a.Seq, b.Seq) || !impl.GoodAttr(n, joined) {
		t.Error("JoinAttr", n, a, b, joined, ok)
	}
	for rep := range n {
		for no := 1; no <= impl.MaxRow; no++ {
			byA, okA := impl.HangsOn(n, a, rep, no)
			byB, okB := impl.HangsOn(n, b, rep, no)
			byBoth, okBoth := impl.HangsOn(n, joined, rep, no)
			if !okA || !okB || !okBoth || byBoth != (byA || byB) {
				t.Error("join", n, a, b, joined, "hangs on", rep, no, byBoth)
			}
		}
	}
}

func TestPromise3JoinOfAllPairsOfNumbers(t *testing.T) {
	for _, n := range groups {
		for rep := range n {
			for no := range impl.MaxRow + 1 {
				for other := range impl.MaxRow + 1 {
					a, b := attr(no, make([]int, n)...), attr(other, make([]int, n)...)
					a.Deps[rep], b.Deps[rep] = no, other
					checkUnion(t, n, a, b)
				}
			}
		}
	}
}

func TestPromise3JoinWithNoneChangesNothing(t *testing.T) {
	for _, n := range groups {
		none, _ := impl.NoneAttr(n)
		for _, a := range someAttrs(n) {
			for _, pair := range [][2]impl.Attr{{a, none}, {none, a}, {a, a}} {
				if got, ok := impl.JoinAttr(n, pair[0], pair[1]); !ok || !plainSame(got, a) {
					t.Error("JoinAttr", n, pair, got, ok)
				}
			}
		}
	}
}

func TestJoinAttrInvalid(t *testing.T) {
	check := func(n int, a, b impl.Attr) {
		t.Helper()
		if got, ok := impl.JoinAttr(n, a, b); ok || !isZeroAttr(got) {
			t.Error("JoinAttr", n, a, b, got, ok)
		}
	}
	for _, n := range groups {
		good := attr(999, slices.Repeat([]int{impl.MaxRow}, n)...)
		for _, bad := range badAttrs(n) {
			check(n, bad, good)
			check(n, good, bad)
			check(n, bad, bad)
		}
	}
	for _, n := range noGroups {
		for length := range 9 {
			a := attr(2, make([]int, length)...)
			check(n, a, a)
		}
	}
	three, five := attr(1, 1, 1, 1), attr(1, 1, 1, 1, 1, 1)
	for _, n := range groups {
		check(n, three, five)
		check(n, five, three)
	}
}

func TestSameAttrOfGoodOnes(t *testing.T) {
	for _, n := range groups {
		attrs := someAttrs(n)
		for i, a := range attrs {
			for _, b := range attrs[:i+1] {
				want := plainSame(a, b)
				if impl.SameAttr(a, cloneAttr(b)) != want || impl.SameAttr(cloneAttr(b), a) != want {
					t.Error("SameAttr", a, b, !want)
				}
			}
		}
	}
}

func TestSameAttrOfUnlikeLengths(t *testing.T) {
	for length := range 16 {
		for other := range 16 {
			a, b := attr(3, make([]int, length)...), attr(3, make([]int, other)...)
			if got := impl.SameAttr(a, b); got != (length == other) {
				t.Error("SameAttr of", length, "and", other, "Deps:", got)
			}
		}
	}
}

func TestSameAttrNilAndEmpty(t *testing.T) {
	null, empty := impl.Attr{Seq: 4}, impl.Attr{Seq: 4, Deps: []int{}}
	for _, pair := range [][2]impl.Attr{{null, null}, {null, empty}, {empty, null}, {empty, empty}} {
		if !impl.SameAttr(pair[0], pair[1]) {
			t.Error("not the same:", pair)
		}
		pair[1].Seq = 5
		if impl.SameAttr(pair[0], pair[1]) {
			t.Error("the same with unlike Seq:", pair)
		}
		pair[1] = attr(4, 0)
		if impl.SameAttr(pair[0], pair[1]) || impl.SameAttr(pair[1], pair[0]) {
			t.Error("the same as one 0:", pair)
		}
	}
}

func TestSameAttrOfOneUnlikeNumber(t *testing.T) {
	unlike := []int{math.MinInt, -1, 0, 1, 7, 3 + 1<<32, math.MaxInt}
	for _, length := range []int{1, 2, 3, 4, 5, 6, 7, 9, 10, 11, 14, 15, 16, 1000} {
		a := attr(8, slices.Repeat([]int{3}, length)...)
		if !impl.SameAttr(a, cloneAttr(a)) {
			t.Error("not the same:", a)
		}
		for at := range length {
			for _, number := range unlike {
				b := cloneAttr(a)
				b.Deps[at] = number
				if impl.SameAttr(a, b) || impl.SameAttr(b, a) {
					t.Error("the same in spite of", number, "at", at, "of", length)
				}
			}
		}
	}
}

func TestSameAttrOfBadOnes(t *testing.T) {
	for _, n := range groups {
		bad := badAttrs(n)
		for _, a := range bad {
			for _, b := range bad {
				if got := impl.SameAttr(a, cloneAttr(b)); got != plainSame(a, b) {
					t.Error("SameAttr", a, b, got)
				}
			}
		}
	}
}

func TestHangsOn(t *testing.T) {
	for _, n := range groups {
		eachDeps(n, []int{0, 1, 2, 3, 4, 5, 6}, func(deps []int) {
			a := attr(1, deps...)
			for rep := range n {
				for no := 1; no <= impl.MaxRow; no++ {
					if is, ok := impl.HangsOn(n, a, rep, no); is != (deps[rep] >= no) || !ok {
						t.Error("HangsOn", n, a, rep, no, is, ok)
					}
				}
			}
		})
	}
}

func TestHangsOnInvalid(t *testing.T) {
	check := func(n int, a impl.Attr, rep, no int) {
		t.Helper()
		if is, ok := impl.HangsOn(n, a, rep, no); is || ok {
			t.Error("HangsOn", n, a, rep, no, is, ok)
		}
	}
	for _, n := range groups {
		full := attr(999, slices.Repeat([]int{impl.MaxRow}, n)...)
		for rep := range n {
			for _, no := range append([]int{0}, badNos...) {
				check(n, full, rep, no)
			}
		}
		for _, rep := range []int{math.MinInt, -1, n, n + 1, 1 << 32, math.MaxInt} {
			for no := range impl.MaxRow + 2 {
				check(n, full, rep, no)
			}
		}
		for _, bad := range badAttrs(n) {
			check(n, bad, 0, 1)
			check(n, bad, n-1, impl.MaxRow)
		}
	}
	for _, n := range noGroups {
		for length := range 9 {
			check(n, attr(2, slices.Repeat([]int{6}, length)...), 0, 1)
		}
	}
}

func TestAttrTextWrittenOut(t *testing.T) {
	cases := map[string]impl.Attr{
		"2:1,2,3":       attr(2, 1, 2, 3),
		"0:0,0,0":       attr(0, 0, 0, 0),
		"999:6,6,6":     attr(999, 6, 6, 6),
		"10:6,0,1":      attr(10, 6, 0, 1),
		"0:0,0,0,0,0":   attr(0, 0, 0, 0, 0, 0),
		"999:6,6,6,6,6": attr(999, 6, 6, 6, 6, 6),
		"100:0,1,2,3,4": attr(100, 0, 1, 2, 3, 4),
		"1:6,0,0,0,5":   attr(1, 6, 0, 0, 0, 5),
	}
	for want, a := range cases {
		n := len(a.Deps)
		if got, ok := impl.AttrText(n, a); got != want || !ok {
			t.Errorf("AttrText %v: %q %v", a, got, ok)
		}
		if got, ok := impl.ReadAttr(n, want); !ok || !plainSame(got, a) {
			t.Errorf("ReadAttr %q: %v %v", want, got, ok)
		}
		checkNotRead(t, 3+5-n, want)
	}
}

func TestAttrTextInvalid(t *testing.T) {
	check := func(n int, a impl.Attr) {
		t.Helper()
		if got, ok := impl.AttrText(n, a); got != "" || ok {
			t.Errorf("AttrText %d %v: %q %v", n, a, got, ok)
		}
	}
	for _, n := range groups {
		for _, bad := range badAttrs(n) {
			check(n, bad)
		}
	}
	for _, n := range noGroups {
		for length := range 9 {
			check(n, attr(2, make([]int, length)...))
		}
	}
}

// checkRead reports where the text of a good attribute is not read as it.
func checkRead(t *testing.T, n int, a impl.Attr) {
	t.Helper()
	text, ok := impl.AttrText(n, a)
	if text != plainAttrText(a) || !ok {
		t.Fatalf("AttrText %v: %q %v", a, text, ok)
	}
	if got, ok := impl.ReadAttr(n, text); !ok || !plainSame(got, a) {
		t.Fatalf("ReadAttr %q: %v %v", text, got, ok)
	}
}

func TestReadAttrInvertsAttrText(t *testing.T) {
	for _, n := range groups {
		eachDeps(n, []int{0, 1, 2, 3, 4, 5, 6}, func(deps []int) {
			checkRead(t, n, attr(123, deps...))
		})
		for seq := range 1000 {
			checkRead(t, n, attr(seq, make([]int, n)...))
		}
		for _, a := range someAttrs(n) {
			checkRead(t, n, a)
		}
	}
}

func TestReadAttrInvalid(t *testing.T) {
	// Each text is one for a group of 3, and with more Deps for one of 5.
	texts := []string{
		"", ":", "::", ",", ",,", "2", "2:", ":1,2,3", "1,2,3", "2,1,2,3", "2:1:2:3", "2:1,2,3:", ":2:1,2,3", "2::1,2,3",
		"2:1,2", "2:1", "2:1,2,", "2:,2,3", "2:1,,3", "2:,,", "2:1,2,3,", "2:,1,2,3", "2:1,2,,3", "2:1,2,3,4", "2:1;2;3", "2;1,2,3",
		"02:1,2,3", "00:1,2,3", "002:1,2,3", "2:01,2,3", "2:1,02,3", "2:1,2,03", "2:00,2,3", "2:1,2,00",
		"+2:1,2,3", "-2:1,2,3", "-0:1,2,3", "2:+1,2,3", "2:1,-2,3", "2:1,2,-0", "2:1,2,+3", "-:1,2,3", "2:-,2,3", "2:1,2,+",
		" 2:1,2,3", "2 :1,2,3", "2: 1,2,3", "2:1 ,2,3", "2:1, 2,3", "2:1,2 ,3", "2:1,2, 3", "2:1,2,3 ", "2:1,2,3\n", "2:1,2,3\x00", "\ufeff2:1,2,3", " :1,2,3", "2: ,2,3", "2:1 2 3", "2 1,2,3",
		"1000:1,2,3", "9999:1,2,3", "0999:1,2,3", "18446744073709551618:1,2,3", "2:7,2,3", "2:1,7,3", "2:1,2,7", "2:10,2,3", "2:1,2,10", "2:1,18446744073709551618,3", "2:1,2,999",
		"x:1,2,3", "2:x,2,3", "2:1,x,3", "2:1,2,x", "2:1,2,3x", "0x2:1,2,3", "2:0x1,2,3", "1_0:1,2,3", "2:1,2,3.0", "1e1:1,2,3", "\u0662:1,2,3", "2:1,2,\u0663", "2:1,\xff,3", "-", "move 1 0 1 5", "2:1,2,3|", "[1 2 3]", "{2 [1 2 3]}",
	}
	for _, text := range texts {
		checkNotRead(t, 3, text)
		checkNotRead(t, 5, strings.Replace(text, ",2", ",2,0,0", 1))
	}
	for _, n := range noGroups {
		for length := range 9 {
			checkNotRead(t, n, plainAttrText(attr(2, make([]int, length)...)))
		}
		checkNotRead(t, n, "")
		checkNotRead(t, n, "2:")
	}
}

func TestReadAttrOfLongTexts(t *testing.T) {
	good := "999:6,6,6,6,6"
	for _, length := range []int{39, 40, 41, 42, 1 << 20} {
		for _, fill := range []string{"0", "6", ",", ":", " ", "\x00", "\xff", "x"} {
			rest := strings.Repeat(fill, length-len(good))
			checkNotRead(t, 5, good+rest)
			checkNotRead(t, 5, rest+good)
			checkNotRead(t, 5, good[:4]+rest+good[4:])
			checkNotRead(t, 5, strings.Repeat(fill, length))
		}
		checkNotRead(t, 5, (good + strings.Repeat(",6", length))[:length])
	}
}

func TestReadAttrOfChangedBytes(t *testing.T) {
	for _, n := range groups {
		text := "103:0,6,1,2,5"[:4+2*n-1]
		for at := range len(text) {
			for to := range 256 {
				same := text[:at] + string([]byte{byte(to)}) + text[at+1:]
				longer := text[:at] + string([]byte{byte(to)}) + text[at:]
				checkOneForm(t, n, same)
				checkOneForm(t, n, longer)
			}
			checkOneForm(t, n, text[:at]+text[at+1:])
			checkOneForm(t, n, text[:at])
			checkOneForm(t, n, text[at:])
		}
	}
}

func TestReadAttrOfAllShortTexts(t *testing.T) {
	var grow func(text string)
	read := 0
	grow = func(text string) {
		if checkOneForm(t, 3, text) {
			read++
		}
		if len(text) == 7 {
			return
		}
		for _, next := range []string{"0", "6", "7", ",", ":", " ", "-"} {
			grow(text + next)
		}
	}
	grow("")
	// One digit of three for Seq, and of two for each of Deps.
	if want := 3 * 2 * 2 * 2; read != want {
		t.Error("read", read, "texts, not", want)
	}
}

// checkOneForm reports where a text is read as what has another text, and
// tells whether it was read.
func checkOneForm(t *testing.T, n int, text string) bool {
	t.Helper()
	a, ok := impl.ReadAttr(n, text)
	if ok && (!impl.GoodAttr(n, a) || plainAttrText(a) != text) {
		t.Errorf("ReadAttr %d %q: %v", n, text, a)
	}
	if !ok && !isZeroAttr(a) {
		t.Errorf("ReadAttr %d %q: %v, false", n, text, a)
	}
	return ok
}

func TestPromise22Chapter3AcceptsAll(t *testing.T) {
	numbers := slices.Concat(groups, noGroups)
	lists := [][]int{nil, {}, {0}, {0, 1, 6}, {0, 1, 7}, {6, 5, 4, 3, 2}, {6, 5, -1, 3, 2}, numbers, slices.Repeat(numbers, 50)}
	for _, n := range numbers {
		for _, seq := range numbers {
			for _, deps := range lists {
				for _, other := range lists {
					checkAttrAnswers(t, n, attr(seq, deps...), attr(-seq, other...))
				}
			}
		}
	}
}

// checkAttrAnswers reports where the functions do not agree on whether a is
// good, and JoinAttr on whether both are.
func checkAttrAnswers(t *testing.T, n int, a, b impl.Attr) {
	t.Helper()
	good := impl.GoodAttr(n, a)
	joined, joinOk := impl.JoinAttr(n, a, b)
	text, textOk := impl.AttrText(n, a)
	is, isOk := impl.HangsOn(n, a, 2, 6)
	if joinOk != (good && impl.GoodAttr(n, b)) || textOk != good || isOk != good {
		t.Error("good in some functions only:", n, a, b)
	}
	if !joinOk && !isZeroAttr(joined) || !good && (text != "" || is) {
		t.Error("not the zero answer:", n, a, b, joined, text, is)
	}
	if !impl.SameAttr(a, a) || impl.SameAttr(a, b) != plainSame(a, b) {
		t.Error("SameAttr", a, b)
	}
}

func TestPromise22Chapter3KeepsArguments(t *testing.T) {
	// 9 behind the length would make Deps bad ones, 5 would show in a join.
	for _, rest := range []int{9, 5, 0} {
		for _, n := range groups {
			attrs := append(badAttrs(n), someAttrs(n)[:40]...)
			for i, a := range attrs {
				checkAttrKept(t, n, a, attrs[(7*i+3)%len(attrs)], rest)
			}
		}
	}
}

// checkAttrKept reports where a function writes to an attribute that it is
// given, or where what stands behind the length of Deps shows in its answer.
func checkAttrKept(t *testing.T, n int, a, b impl.Attr, rest int) {
	t.Helper()
	longA, longB := attr(a.Seq, withHidden(a.Deps, rest)...), attr(b.Seq, withHidden(b.Deps, rest+1)...)
	joined, ok := impl.JoinAttr(n, longA, longB)
	again, okAgain := impl.JoinAttr(n, a, b)
	if ok != okAgain || !plainSame(joined, again) {
		t.Error("JoinAttr reads behind a length:", n, a, b, joined)
	}
	checkNoneShared(t, "JoinAttr", [][]int{joined.Deps, again.Deps})
	text, _ := impl.AttrText(n, longA)
	if plain, _ := impl.AttrText(n, a); text != plain {
		t.Error("AttrText reads behind a length:", n, a, text)
	}
	if impl.GoodAttr(n, longA) != impl.GoodAttr(n, a) {
		t.Error("GoodAttr reads behind a length:", n, a)
	}
	is, _ := impl.HangsOn(n, longA, n-1, 4)
	if plain, _ := impl.HangsOn(n, a, n-1, 4); is != plain {
		t.Error("HangsOn reads behind a length:", n, a)
	}
	likeA := attr(a.Seq, withHidden(a.Deps, rest+1)...)
	if !impl.SameAttr(longA, likeA) || impl.SameAttr(longA, longB) != plainSame(a, b) {
		t.Error("SameAttr reads behind a length:", a, b)
	}
	checkKept(t, "chapter 3", longA.Deps, a.Deps, rest)
	checkKept(t, "chapter 3", longB.Deps, b.Deps, rest+1)
	checkKept(t, "SameAttr", likeA.Deps, a.Deps, rest+1)
}

func TestPromise22Chapter3IsNewMemory(t *testing.T) {
	for _, n := range groups {
		for _, a := range someAttrs(n) {
			given := cloneAttr(a)
			none, _ := impl.NoneAttr(n)
			noneAgain, _ := impl.NoneAttr(n)
			joined, _ := impl.JoinAttr(n, given, none)
			joinedAgain, _ := impl.JoinAttr(n, none, given)
			joinedAlike, _ := impl.JoinAttr(n, given, given)
			read, _ := impl.ReadAttr(n, plainAttrText(a))
			readAgain, _ := impl.ReadAttr(n, plainAttrText(a))
			checkNoneShared(t, "chapter 3", [][]int{
				given.Deps, none.Deps, noneAgain.Deps, joined.Deps, joinedAgain.Deps, joinedAlike.Deps, read.Deps, readAgain.Deps,
			})
			if got, ok := impl.NoneAttr(n); !ok || !plainSame(got, attr(0, make([]int, n)...)) {
				t.Error("NoneAttr differs at a later call:", n, got, ok)
			}
			if got, ok := impl.ReadAttr(n, plainAttrText(a)); !ok || !plainSame(got, a) {
				t.Error("ReadAttr differs at a later call:", n, a, got, ok)
			}
		}
	}
}
