package tests

import (
	"fmt"
	"math"
	"slices"
	"strings"
	"testing"

	"loop.example/g00698/impl"
)

func move(id, from, to, amount int) impl.Cmd {
	return impl.Cmd{Kind: impl.CmMove, Id: id, From: from, To: to, Amount: amount}
}

func read(id, from int) impl.Cmd {
	return impl.Cmd{Kind: impl.CmRead, Id: id, From: from}
}

// someCmds is CmNone, and the other commands of all accounts with the given
// ids and amounts.
func someCmds(ids, amounts []int) []impl.Cmd {
	cmds := []impl.Cmd{{}}
	for _, id := range ids {
		for from := range 4 {
			cmds = append(cmds, read(id, from))
			for to := range 4 {
				for _, amount := range amounts {
					if from != to {
						cmds = append(cmds, move(id, from, to, amount))
					}
				}
			}
		}
	}
	return cmds
}

func numbersUpTo(most int) []int {
	var numbers []int
	for number := range most {
		numbers = append(numbers, number+1)
	}
	return numbers
}

// badCmds is commands of which each is bad, most of them in one field alone.
func badCmds() []impl.Cmd {
	bad := []impl.Cmd{
		{Kind: 3}, {Kind: -1}, {Kind: math.MaxInt}, {Kind: math.MinInt}, {Kind: 1 << 32},
		{Kind: 3, Id: 1, To: 1, Amount: 1},
		{Kind: impl.CmMove}, {Kind: impl.CmRead},
		move(5, 2, 2, 9), move(5, 0, 0, 9),
	}
	for _, number := range []int{math.MinInt, -1, 1, 999, math.MaxInt} {
		bad = append(bad, impl.Cmd{Id: number}, impl.Cmd{From: number}, impl.Cmd{To: number}, impl.Cmd{Amount: number})
		bad = append(bad, impl.Cmd{Kind: impl.CmRead, Id: 5, From: 2, To: number}, impl.Cmd{Kind: impl.CmRead, Id: 5, From: 2, Amount: number})
	}
	for _, account := range []int{math.MinInt, -1, 4, 5, 1 << 32, math.MaxInt} {
		bad = append(bad, move(5, account, 2, 9), move(5, 2, account, 9), read(5, account))
	}
	for _, id := range []int{math.MinInt, -1, 0, 1000, 1<<32 + 5, math.MaxInt} {
		bad = append(bad, move(id, 2, 1, 9), read(id, 2))
	}
	for _, amount := range []int{math.MinInt, -1, 0, 1001, 1<<32 + 9, math.MaxInt} {
		bad = append(bad, move(5, 2, 1, amount))
	}
	return bad
}

// plainTouches is the accounts of a good command, rising.
func plainTouches(c impl.Cmd) []int {
	switch c.Kind {
	case impl.CmMove:
		return []int{min(c.From, c.To), max(c.From, c.To)}
	case impl.CmRead:
		return []int{c.From}
	}
	return nil
}

// plainInterfere tells whether two good commands touch one account.
func plainInterfere(a, b impl.Cmd) bool {
	return slices.ContainsFunc(plainTouches(a), func(account int) bool {
		return slices.Contains(plainTouches(b), account)
	})
}

// plainText is the text of a good command.
func plainText(c impl.Cmd) string {
	switch c.Kind {
	case impl.CmMove:
		return fmt.Sprintf("move %d %d %d %d", c.Id, c.From, c.To, c.Amount)
	case impl.CmRead:
		return fmt.Sprintf("read %d %d", c.Id, c.From)
	}
	return "-"
}

func checkCode(t *testing.T, text string, want int) {
	t.Helper()
	c, code, ok := impl.ReadCmd(text)
	if c != (impl.Cmd{}) || code != want || ok {
		t.Errorf("ReadCmd %.60q: %v, code %d, %v, not code %d", text, c, code, ok, want)
	}
}

func TestCmdConstants(t *testing.T) {
	if impl.Accounts != 4 || impl.MaxAmount != 1000 {
		t.Error("limits:", impl.Accounts, impl.MaxAmount)
	}
	if impl.CmNone != 0 || impl.CmMove != 1 || impl.CmRead != 2 {
		t.Error("kinds:", impl.CmNone, impl.CmMove, impl.CmRead)
	}
}

func TestGoodCmd(t *testing.T) {
	for _, c := range someCmds([]int{1, 2, 500, 998, 999}, []int{1, 2, 500, 999, 1000}) {
		if !impl.GoodCmd(c) {
			t.Error("not good:", c)
		}
	}
	for _, c := range badCmds() {
		if impl.GoodCmd(c) {
			t.Error("good:", c)
		}
	}
}

func TestTouchesOf(t *testing.T) {
	for _, c := range someCmds([]int{1, 999}, []int{1, 1000}) {
		if got, ok := impl.TouchesOf(c); !ok || !slices.Equal(got, plainTouches(c)) {
			t.Error("TouchesOf", c, got, ok)
		}
	}
	for _, c := range badCmds() {
		if got, ok := impl.TouchesOf(c); ok || len(got) != 0 {
			t.Error("TouchesOf", c, got, ok)
		}
	}
}

func TestInterfereWrittenOut(t *testing.T) {
	cases := []struct {
		a, b impl.Cmd
		want bool
	}{
		{impl.Cmd{}, impl.Cmd{}, false},
		{impl.Cmd{}, read(1, 0), false},
		{impl.Cmd{}, move(1, 0, 3, 1), false},
		{read(1, 0), read(2, 0), true},
		{read(1, 3), read(1, 3), true},
		{read(1, 0), read(1, 1), false},
		{move(1, 0, 3, 5), read(1, 3), true},
		{move(1, 0, 3, 5), read(1, 0), true},
		{move(1, 0, 3, 5), read(1, 1), false},
		{move(1, 0, 3, 5), move(1, 1, 2, 5), false},
		{move(1, 0, 3, 5), move(2, 3, 0, 6), true},
		{move(1, 0, 3, 5), move(2, 2, 0, 6), true},
		{move(1, 0, 3, 5), move(2, 0, 2, 6), true},
	}
	for _, c := range cases {
		for _, pair := range [][2]impl.Cmd{{c.a, c.b}, {c.b, c.a}} {
			if got, ok := impl.Interfere(pair[0], pair[1]); got != c.want || !ok {
				t.Error("Interfere", pair, got, ok)
			}
		}
	}
}

func TestInterfereIsTouchingOneAccount(t *testing.T) {
	cmds := someCmds([]int{1, 999}, []int{7})
	for _, a := range cmds {
		for _, b := range cmds {
			if got, ok := impl.Interfere(a, b); got != plainInterfere(a, b) || !ok {
				t.Error("Interfere", a, b, got, ok)
			}
		}
	}
}

func TestInterfereInvalid(t *testing.T) {
	good := []impl.Cmd{{}, move(5, 2, 1, 9), read(5, 2)}
	for _, bad := range badCmds() {
		for _, other := range append(good, bad) {
			for _, pair := range [][2]impl.Cmd{{bad, other}, {other, bad}} {
				if got, ok := impl.Interfere(pair[0], pair[1]); got || ok {
					t.Error("Interfere", pair, got, ok)
				}
			}
		}
	}
}

func TestCmdTextWrittenOut(t *testing.T) {
	cases := map[string]impl.Cmd{
		"-":                 {},
		"move 1 0 3 1":      move(1, 0, 3, 1),
		"move 999 3 0 1000": move(999, 3, 0, 1000),
		"move 42 1 2 100":   move(42, 1, 2, 100),
		"read 1 0":          read(1, 0),
		"read 999 3":        read(999, 3),
	}
	for want, c := range cases {
		if got, ok := impl.CmdText(c); got != want || !ok {
			t.Errorf("CmdText %v: %q %v", c, got, ok)
		}
		if got, code, ok := impl.ReadCmd(want); got != c || code != 0 || !ok {
			t.Errorf("ReadCmd %q: %v %d %v", want, got, code, ok)
		}
	}
}

func TestCmdTextInvalid(t *testing.T) {
	for _, c := range badCmds() {
		if got, ok := impl.CmdText(c); got != "" || ok {
			t.Errorf("CmdText %v: %q %v", c, got, ok)
		}
	}
}

func TestPromise2ReadCmdInvertsCmdText(t *testing.T) {
	all := slices.Concat(
		someCmds(numbersUpTo(999), []int{1, 10, 999, 1000}),
		someCmds([]int{1, 10, 999}, numbersUpTo(1000)))
	for _, c := range all {
		text, ok := impl.CmdText(c)
		if want := plainText(c); text != want || !ok {
			t.Fatalf("CmdText %v: %q %v", c, text, ok)
		}
		if got, code, ok := impl.ReadCmd(text); got != c || code != 0 || !ok {
			t.Fatalf("ReadCmd %q: %v %d %v", text, got, code, ok)
		}
	}
}

func TestReadCmdOneFault(t *testing.T) {
	cases := map[int][]string{
		1: {
			"", " ", "fly", "fly 1 0 1 5", "Move 1 0 1 5", "moves 1 0 1 5", "mov 1 0 1 5", "READ 1 0",
			" move 1 0 1 5", " read 1 0", " -", "  -", "--", "-1", "move\t1 0 1 5", "move\n", "-\n", "-\x00",
			"\xff", "move\xff 1 0 1 5", "m\u043eve 1 0 1 5", "none", "0", "1 0 1 5", "\ufeffread 1 0",
		},
		2: {
			"- ", "- -", "- 0", "-  ", "move", "move ", "move 1 0 1", "move 1 0 1 5 6", "move 1 0 1 5 ",
			"move  1 0 1 5", "move 1 0  1 5", "move 1 0 1  5", "move 1\t0 1 5", "read", "read ", "read 1",
			"read 1 0 ", "read 1  0", "read  1 0", "read 1 0 1", "read 1 0 0 0", "move 1 0 1 5 6 7 8 9",
		},
		3: {
			"move 1 0 x 5", "move x 0 1 5", "move 1 x 1 5", "move 1 0 1 x", "move 01 0 1 5", "move 1 00 1 5",
			"move 1 0 01 5", "move 1 0 1 05", "move 1 0 1 0005", "move 10000 0 1 5", "move 1 0 1 10000",
			"move 1 10000 1 5", "move 1 0 10000 5", "move +1 0 1 5", "move 1 -0 1 5", "move 1 0 1 -5",
			"move 1 0 1 5\n", "move 1 0 1 1.0", "move 1 0 1 1_0", "move 1 0 1 0x5", "move 1 0 1 \u0665",
			"move 1 0 1 \xff", "move 1 0 1 5\x00", "move 1 0 1 18446744073709551617", "move 1 0 1 99999999999999999999999",
			"move  0 1 5", "move 1  1 5", "move 1 0 1 ", "move 1 0  5", "move    ",
			"read 1 ", "read  1", "read x 0", "read 1 x", "read 01 0", "read 1 00", "read 10000 0", "read 1 10000",
			"read 1 0\r", "read 1 \t0", "read +1 0", "read -1 0", "read 1 -1", "read  ",
		},
		4: {
			"move 1 4 1 5", "move 1 0 4 5", "move 1 9999 1 5", "move 1 0 9999 5", "move 1 4 4 5", "read 1 4",
			"read 1 9999",
		},
		5: {"move 1 0 0 5", "move 1 3 3 5", "move 999 1 1 1000"},
		6: {
			"move 0 0 1 5", "move 1000 0 1 5", "move 9999 0 1 5", "move 1 0 1 0", "move 1 0 1 1001",
			"move 1 0 1 9999", "read 0 0", "read 1000 3", "read 9999 3",
		},
	}
	for code, texts := range cases {
		for _, text := range texts {
			checkCode(t, text, code)
		}
	}
}

func TestReadCmdFirstOfSeveralFaults(t *testing.T) {
	cases := map[string]int{
		// Each text has the fault of its code and some of those of later codes.
		"fly  01 4":          1,
		" move 1 0 1":        1,
		"0 0 4 4 1001":       1,
		"move 0 4 4":         2,
		"move 01 0 0":        2,
		"read 0 4 x":         2,
		"read 00":            2,
		"- 0 4 4 1001":       2,
		"move 0 4 4 x":       3,
		"move 1 4 1 00":      3,
		"move 00 0 0 5":      3,
		"move 10000 4 4 0":   3,
		"read 00 4":          3,
		"read 0 04":          3,
		"move 0 4 4 0":       4,
		"move 0 0 4 5":       4,
		"move 1 4 1 0":       4,
		"move 1000 9 9 1001": 4,
		"read 0 4":           4,
		"read 1000 4":        4,
		"move 0 0 0 5":       5,
		"move 1 2 2 0":       5,
		"move 1000 3 3 1001": 5,
		"move 0 0 1 0":       6,
		"move 1000 0 1 1001": 6,
	}
	for text, code := range cases {
		checkCode(t, text, code)
	}
}

// plainNumbers is each number of up to four digits by its one form.
func plainNumbers() map[string]int {
	numbers := map[string]int{}
	for number := range 10000 {
		numbers[fmt.Sprint(number)] = number
	}
	return numbers
}

// plainCode is the code of a text of the given words, rule by rule.
func plainCode(words []string, known map[string]int) int {
	count, ok := map[string]int{"-": 1, "move": 5, "read": 3}[words[0]]
	if !ok {
		return 1
	}
	if len(words) != count {
		return 2
	}
	var numbers []int
	for _, word := range words[1:] {
		number, ok := known[word]
		if !ok {
			return 3
		}
		numbers = append(numbers, number)
	}
	var accounts, others []int
	if words[0] == "move" {
		accounts, others = numbers[1:3], numbers[3:]
	} else if words[0] == "read" {
		accounts = numbers[1:]
	}
	if slices.ContainsFunc(accounts, func(account int) bool { return account > 3 }) {
		return 4
	}
	if len(accounts) == 2 && accounts[0] == accounts[1] {
		return 5
	}
	if len(numbers) > 0 && (numbers[0] == 0 || numbers[0] > 999) || len(others) > 0 && (others[0] == 0 || others[0] > 1000) {
		return 6
	}
	return 0
}

// eachText calls look with the words of each text of most words at most.
func eachText(words []string, vocabulary []string, most int, look func([]string)) {
	if len(words) > 0 {
		look(words)
	}
	if len(words) == most {
		return
	}
	for _, word := range vocabulary {
		eachText(append(words, word), vocabulary, most, look)
	}
}

func TestPromise2ReadCmdOfAllShortTexts(t *testing.T) {
	known := plainNumbers()
	vocabulary := []string{"0", "1", "3", "4", "999", "1000", "1001", "10000", "", "03", "-", "move"}
	for _, first := range []string{"-", "move", "read", "", "fly", "1"} {
		eachText([]string{first}, vocabulary, 5, func(words []string) {
			text := strings.Join(words, " ")
			want := plainCode(words, known)
			if want != 0 {
				checkCode(t, text, want)
				return
			}
			c, code, ok := impl.ReadCmd(text)
			if code != 0 || !ok || !impl.GoodCmd(c) || plainText(c) != text {
				t.Errorf("ReadCmd %q: %v %d %v", text, c, code, ok)
			}
		})
	}
}

func TestPromise2ReadCmdOfChangedBytes(t *testing.T) {
	for _, text := range []string{"-", "move 123 0 2 1000", "read 45 3"} {
		for at := range len(text) {
			for to := range 256 {
				changed := text[:at] + string([]byte{byte(to)}) + text[at+1:]
				c, code, ok := impl.ReadCmd(changed)
				if ok && (code != 0 || plainText(c) != changed) {
					t.Errorf("ReadCmd %q: %v %d", changed, c, code)
				}
				if !ok && (code < 1 || code > 6 || c != impl.Cmd{}) {
					t.Errorf("ReadCmd %q: %v %d %v", changed, c, code, ok)
				}
			}
		}
	}
}

func TestPromise22Chapter2AcceptsAll(t *testing.T) {
	numbers := []int{math.MinInt, -1, 0, 1, 2, 3, 4, 999, 1001, math.MaxInt}
	for _, kind := range numbers {
		for _, id := range numbers {
			for _, from := range numbers {
				for _, to := range numbers {
					for _, amount := range numbers {
						checkAnswers(t, impl.Cmd{Kind: kind, Id: id, From: from, To: to, Amount: amount})
					}
				}
			}
		}
	}
}

// checkAnswers reports where the functions do not agree on whether c is good.
func checkAnswers(t *testing.T, c impl.Cmd) {
	t.Helper()
	good := impl.GoodCmd(c)
	touches, touchesOk := impl.TouchesOf(c)
	text, textOk := impl.CmdText(c)
	is, isOk := impl.Interfere(c, c)
	if touchesOk != good || textOk != good || isOk != good {
		t.Error("good in some functions only:", c)
	}
	if !good && (len(touches) != 0 || text != "" || is) {
		t.Error("not the zero answer of a bad command:", c, touches, text, is)
	}
	if good && plainText(c) != text {
		t.Error("a good command with a text not its own:", c, text)
	}
}

func TestPromise22ReadCmdOfLongTexts(t *testing.T) {
	const long = 1 << 20
	cases := map[string]int{
		strings.Repeat(" ", long):                     1,
		strings.Repeat("move", long):                  1,
		strings.Repeat("-", long):                     1,
		strings.Repeat("\x00", long):                  1,
		strings.Repeat("\xff", long):                  1,
		"-" + strings.Repeat(" ", long):               2,
		"move" + strings.Repeat(" ", long):            2,
		"read" + strings.Repeat(" 1", long):           2,
		"move 1 0 1 5" + strings.Repeat(" ", long):    2,
		"move 1 0 1 " + strings.Repeat("5", long):     3,
		"move 1 0 1 " + strings.Repeat("0", long):     3,
		"read " + strings.Repeat("9", long) + " 4":    3,
		"read 1 " + strings.Repeat("\u0660", long):    3,
		"move 1 0 1 5" + strings.Repeat("\x00", long): 3,
	}
	for text, code := range cases {
		checkCode(t, text, code)
	}
}

func TestPromise22TouchesOfIsNewMemory(t *testing.T) {
	for _, c := range someCmds([]int{1}, []int{1}) {
		first, _ := impl.TouchesOf(c)
		second, _ := impl.TouchesOf(c)
		checkNoneShared(t, "TouchesOf", [][]int{first, second})
		if again, ok := impl.TouchesOf(c); !ok || !slices.Equal(again, plainTouches(c)) {
			t.Error("TouchesOf differs at a later call:", c, again, ok)
		}
	}
}
