package tests

import (
	"math"
	"slices"
	"testing"

	"loop.example/g00698/impl"
)

// atFirst is the sums that NewSums tells.
var atFirst = []int{100, 100, 100, 100}

func told(code int) impl.Told {
	return impl.Told{Code: code}
}

func toldSum(sum int) impl.Told {
	return impl.Told{Code: codeSum, Sum: sum}
}

// badSums is lists that are no sums, most of them for one reason alone.
func badSums() [][]int {
	bad := [][]int{
		nil, {}, {400}, {100}, {200, 200}, {100, 100, 200}, {100, 100, 100},
		{100, 100, 100, 100, 0}, {0, 100, 100, 100, 100}, {80, 80, 80, 80, 80}, {100, 100, 100, 100, 100},
		slices.Repeat([]int{100}, 1000), slices.Repeat([]int{0}, 1000), slices.Repeat([]int{1}, 400),
		// These would do, but that some number is below 0.
		{-1, 101, 100, 200}, {500, -100, 0, 0}, {401, 0, 0, -1}, {200, 400, -200, 0}, {-400, 800, -400, 400},
		{math.MinInt, math.MinInt, 200, 200}, {math.MaxInt, math.MinInt, 401, 0}, {1 << 62, -1 << 62, 400, 0},
		// These add up to another total.
		{0, 0, 0, 0}, {1, 0, 0, 0}, {100, 100, 100, 99}, {100, 100, 100, 101}, {399, 0, 0, 0}, {401, 0, 0, 0},
		{400, 0, 0, 1}, {0, 0, 400, 1}, {400, 400, 0, 0}, {400, 400, 400, 400}, {1, 1, 1, 1}, {200, 200, 200, 200},
		{-100, -100, -100, -100}, {-1, 0, 0, 0}, {math.MaxInt, 0, 0, 0}, {0, 0, 0, math.MinInt},
		// These would add up to the right total, or to 0, in fewer bits.
		{math.MaxInt, math.MaxInt, 402, 0}, {math.MaxInt, math.MaxInt, 2, 400}, {402, 0, math.MaxInt, math.MaxInt},
		{1 << 62, 1 << 62, 1 << 62, 1<<62 + 400}, {1<<62 + 100, 1<<62 + 100, 1<<62 + 100, 1<<62 + 100},
		{1 << 62, 1 << 62, 1 << 62, 1 << 62}, {math.MaxInt, math.MaxInt, 2, 0},
		{100 + 1<<32, 100, 100, 100}, {400 + 1<<32, 0, 0, 0}, {1 << 32, 200, 0, 200}, {100, 100, 100, 100 + 1<<16},
	}
	for account := range 4 {
		for _, number := range []int{math.MinInt, -100, -1, 0, 99, 101, 400, 1 << 32, math.MaxInt} {
			l := slices.Clone(atFirst)
			l[account] = number
			bad = append(bad, l)
		}
	}
	return bad
}

// someSums is good ones: all that the given numbers make.
func someSums(numbers ...int) [][]int {
	var sums [][]int
	for _, first := range numbers {
		for _, second := range numbers {
			for _, third := range numbers {
				if last := 400 - first - second - third; last >= 0 {
					sums = append(sums, []int{first, second, third, last})
				}
			}
		}
	}
	return sums
}

func TestLedgerConstants(t *testing.T) {
	if impl.StartSum != 100 {
		t.Error("StartSum:", impl.StartSum)
	}
	if impl.VdNone != 0 || impl.VdDone != 1 || impl.VdPoor != 2 || impl.VdSum != 3 {
		t.Error("codes:", impl.VdNone, impl.VdDone, impl.VdPoor, impl.VdSum)
	}
}

func TestGoodSums(t *testing.T) {
	good := [][]int{atFirst, {400, 0, 0, 0}, {0, 400, 0, 0}, {0, 0, 400, 0}, {0, 0, 0, 400}, {399, 0, 1, 0}, {1, 2, 3, 394}}
	for _, l := range append(good, someSums(0, 1, 50, 99, 100, 101, 200, 399, 400)...) {
		if !impl.GoodSums(l) {
			t.Error("not good:", l)
		}
		if total, ok := impl.TotalOf(l); total != 400 || !ok {
			t.Error("TotalOf", l, total, ok)
		}
	}
}

func TestGoodSumsInvalid(t *testing.T) {
	for _, l := range badSums() {
		if impl.GoodSums(l) {
			t.Error("good:", l)
		}
		if total, ok := impl.TotalOf(l); total != 0 || ok {
			t.Error("TotalOf", l, total, ok)
		}
	}
}

func TestNewSums(t *testing.T) {
	if l := impl.NewSums(); !slices.Equal(l, atFirst) || !impl.GoodSums(l) {
		t.Error("NewSums", l)
	}
	if got, want := impl.NewSums(), slices.Repeat([]int{impl.StartSum}, impl.Accounts); !slices.Equal(got, want) {
		t.Error("NewSums", got, "not", want)
	}
}

func checkApplied(t *testing.T, l []int, c impl.Cmd, want []int, wantTold impl.Told) {
	t.Helper()
	if got, gotTold, ok := impl.ApplyCmd(l, c); !ok || !slices.Equal(got, want) || gotTold != wantTold {
		t.Errorf("ApplyCmd of %v to %v: %v, %v, %v, not %v, %v", c, l, got, gotTold, ok, want, wantTold)
	}
}

func checkNotApplied(t *testing.T, l []int, c impl.Cmd) {
	t.Helper()
	if got, gotTold, ok := impl.ApplyCmd(l, c); ok || len(got) != 0 || gotTold != (impl.Told{}) {
		t.Errorf("ApplyCmd of %v to %v: %v, %v, %v", c, l, got, gotTold, ok)
	}
}

func TestApplyCmdWrittenOut(t *testing.T) {
	l := []int{70, 0, 129, 201}
	cases := []struct {
		c    impl.Cmd
		want []int
		told impl.Told
	}{
		{impl.Cmd{}, l, told(codeNone)},
		{read(1, 0), l, toldSum(70)},
		{read(999, 1), l, toldSum(0)},
		{read(2, 2), l, toldSum(129)},
		{read(3, 3), l, toldSum(201)},
		{move(1, 0, 1, 30), []int{40, 30, 129, 201}, told(codeDone)},
		{move(1, 0, 1, 70), []int{0, 70, 129, 201}, told(codeDone)},
		{move(1, 0, 1, 71), l, told(codePoor)},
		{move(1, 0, 1, 1000), l, told(codePoor)},
		{move(1, 1, 0, 1), l, told(codePoor)},
		{move(1, 1, 3, 1000), l, told(codePoor)},
		{move(1, 2, 0, 1), []int{71, 0, 128, 201}, told(codeDone)},
		{move(1, 2, 3, 129), []int{70, 0, 0, 330}, told(codeDone)},
		// There is enough in To, or in both together, but not in From.
		{move(1, 2, 3, 130), l, told(codePoor)},
		{move(1, 0, 3, 100), l, told(codePoor)},
		{move(1, 3, 1, 201), []int{70, 201, 129, 0}, told(codeDone)},
		{move(1, 3, 1, 202), l, told(codePoor)},
		{move(1, 3, 2, 200), []int{70, 0, 329, 1}, told(codeDone)},
	}
	for _, c := range cases {
		checkApplied(t, l, c.c, c.want, c.told)
	}
}

func TestApplyCmdReads(t *testing.T) {
	for _, l := range someSums(0, 1, 7, 100, 400) {
		checkApplied(t, l, impl.Cmd{}, l, told(codeNone))
		for account, sum := range l {
			checkApplied(t, l, read(5, account), l, toldSum(sum))
		}
	}
}

func TestApplyCmdMovesAllThatIsThere(t *testing.T) {
	for _, l := range someSums(0, 1, 7, 100, 130, 399, 400) {
		for from, sum := range l {
			for to := range 4 {
				if to == from {
					continue
				}
				checkApplied(t, l, move(5, from, to, sum+1), l, told(codePoor))
				checkApplied(t, l, move(5, from, to, 1000), l, told(codePoor))
				for _, amount := range []int{1, sum / 2, sum - 1, sum} {
					if amount < 1 || amount > sum {
						continue
					}
					want := slices.Clone(l)
					want[from] -= amount
					want[to] += amount
					checkApplied(t, l, move(5, from, to, amount), want, told(codeDone))
				}
			}
		}
	}
}

func TestApplyCmdInvalid(t *testing.T) {
	for _, l := range badSums() {
		for _, c := range []impl.Cmd{{}, read(5, 0), read(5, 3), move(5, 0, 1, 1), move(5, 3, 2, 1000), read(5, 4)} {
			checkNotApplied(t, l, c)
		}
	}
	for _, c := range badCmds() {
		checkNotApplied(t, atFirst, c)
		checkNotApplied(t, []int{0, 400, 0, 0}, c)
		checkNotApplied(t, []int{0, 0, 400, 0}, c)
	}
}

func checkPlayedCmds(t *testing.T, l []impl.Cmd, want []int, wantTold ...impl.Told) {
	t.Helper()
	if got, gotTold, ok := impl.PlayCmds(l); !ok || !slices.Equal(got, want) || !slices.Equal(gotTold, wantTold) {
		t.Errorf("PlayCmds %v: %v, %v, %v, not %v, %v", l, got, gotTold, ok, want, wantTold)
	}
}

func checkNotPlayedCmds(t *testing.T, l []impl.Cmd) {
	t.Helper()
	if got, gotTold, ok := impl.PlayCmds(l); ok || len(got) != 0 || len(gotTold) != 0 {
		t.Errorf("PlayCmds of %d commands, %v: %v, %v, %v", len(l), l, got, gotTold, ok)
	}
}

func TestPlayCmdsWrittenOut(t *testing.T) {
	checkPlayedCmds(t, nil, atFirst)
	checkPlayedCmds(t, []impl.Cmd{}, atFirst)
	checkPlayedCmds(t, []impl.Cmd{{}}, atFirst, told(codeNone))
	checkPlayedCmds(t, []impl.Cmd{move(1, 3, 0, 100)}, []int{200, 100, 100, 0}, told(codeDone))
	checkPlayedCmds(t, []impl.Cmd{move(1, 3, 0, 101)}, atFirst, told(codePoor))
	checkPlayedCmds(t,
		[]impl.Cmd{read(1, 2), move(2, 0, 2, 30), read(3, 2), {}, move(4, 0, 1, 71), move(5, 0, 1, 70), read(6, 0), move(7, 1, 2, 170), read(8, 2)},
		[]int{0, 0, 300, 100},
		toldSum(100), told(codeDone), toldSum(130), told(codeNone), told(codePoor), told(codeDone), toldSum(0), told(codeDone), toldSum(300))
	// The same command again is done again.
	checkPlayedCmds(t, slices.Repeat([]impl.Cmd{move(1, 0, 1, 40)}, 4), []int{20, 180, 100, 100},
		told(codeDone), told(codeDone), told(codePoor), told(codePoor))
	checkPlayedCmds(t, []impl.Cmd{read(1, 3), move(1, 0, 3, 100), read(1, 3)}, []int{0, 100, 100, 200},
		toldSum(100), told(codeDone), toldSum(200))
}

func TestPlayCmdsLimit(t *testing.T) {
	back := []impl.Cmd{move(1, 0, 1, 100), move(2, 1, 0, 100), read(3, 0)}
	sixty := slices.Repeat(back, 20)
	checkPlayedCmds(t, sixty, atFirst, slices.Repeat([]impl.Told{told(codeDone), told(codeDone), toldSum(100)}, 20)...)
	checkPlayedCmds(t, sixty[:59], atFirst, slices.Repeat([]impl.Told{told(codeDone), told(codeDone), toldSum(100)}, 20)[:59]...)
	checkPlayedCmds(t, slices.Repeat([]impl.Cmd{{}}, 60), atFirst, slices.Repeat([]impl.Told{{}}, 60)...)
	for _, count := range []int{61, 62, 64, 100, 10000} {
		checkNotPlayedCmds(t, slices.Repeat(back, count)[:count])
		checkNotPlayedCmds(t, make([]impl.Cmd, count))
	}
}

func TestPlayCmdsInvalid(t *testing.T) {
	for _, bad := range badCmds() {
		for _, count := range []int{1, 2, 7, 60} {
			l := slices.Repeat([]impl.Cmd{move(1, 0, 1, 5), read(2, 1)}, count)[:count]
			for _, at := range []int{0, count / 2, count - 1} {
				changed := slices.Clone(l)
				changed[at] = bad
				checkNotPlayedCmds(t, changed)
			}
		}
	}
}

func checkTellsSame(t *testing.T, a, b []impl.Cmd, want bool) {
	t.Helper()
	for _, pair := range [][2][]impl.Cmd{{a, b}, {b, a}} {
		if got, ok := impl.TellsSame(pair[0], pair[1]); !ok || got != want {
			t.Errorf("TellsSame %v: %v, %v, not %v", pair, got, ok, want)
		}
	}
}

func checkTellsNothing(t *testing.T, a, b []impl.Cmd) {
	t.Helper()
	for _, pair := range [][2][]impl.Cmd{{a, b}, {b, a}} {
		if got, ok := impl.TellsSame(pair[0], pair[1]); ok || got {
			t.Errorf("TellsSame %v: %v, %v", pair, got, ok)
		}
	}
}

func TestTellsSameWrittenOut(t *testing.T) {
	checkTellsSame(t, nil, nil, true)
	checkTellsSame(t, nil, []impl.Cmd{}, true)
	checkTellsSame(t, []impl.Cmd{{}}, []impl.Cmd{{}}, true)
	checkTellsSame(t, []impl.Cmd{read(1, 0)}, []impl.Cmd{read(1, 0)}, true)
	some := []impl.Cmd{move(1, 0, 1, 60), read(2, 1), {}, move(3, 0, 2, 60), read(4, 0)}
	checkTellsSame(t, some, slices.Clone(some), true)

	// Those that do not interfere may change places, CmNone with any.
	checkTellsSame(t, some, []impl.Cmd{{}, some[0], some[1], some[3], some[4]}, true)
	checkTellsSame(t, some, []impl.Cmd{some[0], some[3], some[1], some[4], {}}, true)
	checkTellsSame(t, []impl.Cmd{move(1, 0, 1, 60), move(2, 2, 3, 60)}, []impl.Cmd{move(2, 2, 3, 60), move(1, 0, 1, 60)}, true)
	checkTellsSame(t, []impl.Cmd{move(1, 0, 1, 60), read(2, 3)}, []impl.Cmd{read(2, 3), move(1, 0, 1, 60)}, true)
	// Some that interfere may, too: there is enough for both, or for none.
	checkTellsSame(t, []impl.Cmd{move(1, 0, 1, 60), move(2, 0, 1, 40)}, []impl.Cmd{move(2, 0, 1, 40), move(1, 0, 1, 60)}, true)
	checkTellsSame(t, []impl.Cmd{move(1, 0, 1, 101), move(2, 0, 1, 102)}, []impl.Cmd{move(2, 0, 1, 102), move(1, 0, 1, 101)}, true)
	checkTellsSame(t, []impl.Cmd{read(1, 0), read(2, 0)}, []impl.Cmd{read(2, 0), read(1, 0)}, true)
	checkTellsSame(t, []impl.Cmd{move(1, 0, 1, 101), read(2, 0)}, []impl.Cmd{read(2, 0), move(1, 0, 1, 101)}, true)
}

func TestTellsSameOfThoseThatInterfere(t *testing.T) {
	cases := []struct {
		a            []impl.Cmd
		isSumsUnlike bool
	}{
		// The sums differ: what one brings the other one needs, or both need the same.
		{[]impl.Cmd{move(1, 0, 1, 100), move(2, 1, 2, 150)}, true},
		{[]impl.Cmd{move(1, 0, 1, 60), move(2, 0, 2, 60)}, true},
		{[]impl.Cmd{move(1, 0, 1, 60), move(2, 0, 1, 50)}, true},
		// They are the same, but what is told is not.
		{[]impl.Cmd{read(1, 0), move(2, 0, 1, 1)}, false},
		{[]impl.Cmd{read(1, 3), move(2, 2, 3, 100)}, false},
		{[]impl.Cmd{move(1, 0, 1, 60), move(2, 0, 1, 60)}, false},
		{[]impl.Cmd{{}, read(1, 0), read(2, 1), move(3, 0, 1, 1), read(4, 2)}, false},
	}
	for _, c := range cases {
		b := slices.Clone(c.a)
		slices.Reverse(b)
		first, _, _ := impl.PlayCmds(c.a)
		second, _, _ := impl.PlayCmds(b)
		if slices.Equal(first, second) == c.isSumsUnlike {
			t.Error("not the case that is meant:", c.a, first, second)
		}
		checkTellsSame(t, c.a, b, false)
	}
}

func TestTellsSameOfUnlikeLists(t *testing.T) {
	one, other, third := move(1, 0, 1, 5), read(2, 3), move(3, 2, 3, 5)
	for _, pair := range [][2][]impl.Cmd{
		// Unlike lengths.
		{nil, {one}}, {nil, {{}}}, {{one}, {one, other}}, {{one, other}, {one, other, third}}, {{one}, {one, {}}},
		// The same command twice, in one list or in both.
		{{one, one}, {one, one}}, {{one, one}, {one, other}}, {{one, other}, {other, other}}, {{{}, {}}, {{}, {}}},
		{{one, one}, {one}}, {{other, other}, {other}}, {{one, one, other}, {one, other, other}},
		{{one, other, third, one}, {one, other, third, one}}, {{{}, one, {}}, {{}, one, {}}}, {{{}, {}}, {{}}},
		{{one, other, one}, {one, other, third}}, {{one, one, one}, {other, other, other}},
		// One that is not in the other list, unlike in one field alone.
		{{one}, {other}}, {{one, other}, {one, third}}, {{one, other}, {third, other}}, {{one}, {{}}},
		{{one}, {move(2, 0, 1, 5)}}, {{one}, {move(1, 3, 1, 5)}}, {{one}, {move(1, 0, 2, 5)}}, {{one}, {move(1, 0, 1, 6)}},
		{{other}, {read(1, 3)}}, {{other}, {read(2, 0)}}, {{move(1, 0, 1, 101)}, {move(1, 0, 1, 102)}},
	} {
		checkTellsNothing(t, pair[0], pair[1])
	}
}

func TestTellsSameLimit(t *testing.T) {
	var cmds []impl.Cmd
	for id := range 61 {
		cmds = append(cmds, move(1+id, id%4, (id+1)%4, 1))
	}
	turned := slices.Clone(cmds)
	slices.Reverse(turned)
	checkTellsSame(t, cmds[:60], turned[1:], true)
	checkTellsSame(t, cmds[:59], turned[2:], true)
	checkTellsSame(t, cmds[:60], cmds[:60], true)
	checkTellsNothing(t, cmds, turned)
	checkTellsNothing(t, cmds, cmds)
	checkTellsNothing(t, cmds, cmds[:60])
	checkTellsNothing(t, make([]impl.Cmd, 61), make([]impl.Cmd, 61))
}

func TestTellsSameInvalid(t *testing.T) {
	for _, bad := range badCmds() {
		for _, good := range [][]impl.Cmd{nil, {{}}, {read(1, 0)}, {move(1, 0, 1, 5), read(2, 3)}} {
			with := append(slices.Clone(good), bad)
			checkTellsNothing(t, with, with)
			checkTellsNothing(t, with, good)
			checkTellsNothing(t, with, append(slices.Clone(good), read(3, 3)))
			checkTellsNothing(t, with, slices.Concat([]impl.Cmd{bad}, good))
		}
	}
}
