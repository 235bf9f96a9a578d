package tests

import (
	"fmt"
	"regexp"
	"strconv"
	"strings"
	"testing"

	"loop.example/g00698/impl"
)

var headForm = regexp.MustCompile(`^(pre|preok|acc|accok|com|prep|prepok)( (0|[1-9][0-9]{0,3})){7}$`)

var cmdForm = regexp.MustCompile(`^(-|move [1-9][0-9]{0,2} [0-3] [0-3] ([1-9][0-9]{0,2}|1000)|read [1-9][0-9]{0,2} [0-3])$`)

var attrForms = map[int]*regexp.Regexp{
	3: regexp.MustCompile(`^(0|[1-9][0-9]{0,2}):[0-6](,[0-6]){2}$`),
	5: regexp.MustCompile(`^(0|[1-9][0-9]{0,2}):[0-6](,[0-6]){4}$`),
}

func decimalsIn(text string) []int {
	var numbers []int
	for _, word := range strings.FieldsFunc(text, func(r rune) bool { return r < '0' || r > '9' }) {
		number, _ := strconv.Atoi(word)
		numbers = append(numbers, number)
	}
	return numbers
}

// plainReadHead reads what headForm fits.
func plainReadHead(text string) impl.Msg {
	word, _, _ := strings.Cut(text, " ")
	m := impl.Msg{}
	for kind, other := range msgWords {
		if other == word {
			m.Kind = kind
		}
	}
	numbers := decimalsIn(text)
	for i, field := range fieldsOf(&m)[1:8] {
		*field = numbers[i]
	}
	return m
}

// plainReadCmd reads what cmdForm fits, but for accounts that are the same.
func plainReadCmd(text string) (impl.Cmd, bool) {
	numbers := decimalsIn(text)
	switch {
	case !cmdForm.MatchString(text):
		return impl.Cmd{}, false
	case text == "-":
		return impl.Cmd{}, true
	case strings.HasPrefix(text, "read"):
		return read(numbers[0], numbers[1]), true
	}
	return move(numbers[0], numbers[1], numbers[2], numbers[3]), numbers[1] != numbers[2]
}

// plainReadMsg reads a text rule by rule, and tells the code.
func plainReadMsg(n int, text string) (impl.Msg, int) {
	parts := strings.Split(text, "|")
	form := attrForms[n]
	if form == nil || len(parts) != 3 {
		return impl.Msg{}, 1
	}
	if !headForm.MatchString(parts[0]) {
		return impl.Msg{}, 2
	}
	c, ok := plainReadCmd(parts[1])
	if !ok {
		return impl.Msg{}, 3
	}
	if !form.MatchString(parts[2]) {
		return impl.Msg{}, 4
	}
	m := plainReadHead(parts[0])
	numbers := decimalsIn(parts[2])
	m.Cmd, m.Attr = c, attr(numbers[0], numbers[1:]...)
	if !plainGoodMsg(n, m) {
		return impl.Msg{}, 5
	}
	return m, 0
}

// checkReadMsg compares with plainReadMsg, and tells the code.
func checkReadMsg(t *testing.T, n int, text string) int {
	t.Helper()
	want, wantCode := plainReadMsg(n, text)
	got, code, ok := impl.ReadMsg(n, text)
	if code != wantCode || ok != (wantCode == 0) || !plainSameMsg(got, want) {
		t.Errorf("ReadMsg %d %.80q: %v, code %d, %v, not %v, code %d", n, text, got, code, ok, want, wantCode)
	}
	return code
}

func checkMsgCode(t *testing.T, n int, text string, want int) {
	t.Helper()
	m, code, ok := impl.ReadMsg(n, text)
	if !isZeroMsg(m) || code != want || ok {
		t.Errorf("ReadMsg %d %.80q: %v, code %d, %v, not code %d", n, text, m, code, ok, want)
	}
}

// eachMsgGroup calls check with texts for a group of 3, and with two numbers
// more behind their end for one of 5.
func eachMsgGroup(texts []string, check func(n int, text string)) {
	for _, text := range texts {
		check(3, text)
		check(5, text+",0,0")
	}
}

func TestReadMsgOneFault(t *testing.T) {
	cases := map[int][]string{
		1: {
			"pre 0 1 0 1 0 0 0", "pre 0 1 0 1 0 0 0|-", "pre 0 1 0 1 0 0 0 - 0:0,0,0", "pre 0 1 0 1 0 0 0|-0:0,0,0", "pre 0 1 0 1 0 0 0-|0:0,0,0",
			"pre 0 1 0 1 0 0 0|-|0:0,0,0|", "|pre 0 1 0 1 0 0 0|-|0:0,0,0", "pre 0 1 0 1 0 0 0||-|0:0,0,0", "pre 0 1 0 1 0 0 0|-||0:0,0,0", "pre 0 1 0 1 0 0 0|-|0:0,0,0|0:0,0,0",
			"pre|0 1 0 1 0 0 0|-|0:0,0,0", "pre 0 1 0 1 0 0 0|move 1 0|1 5|0:0,0,0", "pre 0 1 0 1 0 0 0|-|0:0|0,0", "pre 0 1 0 1 0 0 0\u00a6-\u00a60:0,0,0", "", "|", "|||", "||||",
		},
		2: {
			"|-|0:0,0,0", " |-|0:0,0,0", "pre|-|0:0,0,0", "fly 0 1 0 1 0 0 0|-|0:0,0,0", "PRE 0 1 0 1 0 0 0|-|0:0,0,0", "pr 0 1 0 1 0 0 0|-|0:0,0,0", "preo 0 1 0 1 0 0 0|-|0:0,0,0",
			"pres 0 1 0 1 0 0 0|-|0:0,0,0", "prepo 0 1 0 1 0 0 0|-|0:0,0,0", "prepokk 0 1 0 1 0 0 0|-|0:0,0,0", "comok 0 1 0 1 0 0 0|-|0:0,0,0",
			"pre\xff 0 1 0 1 0 0 0|-|0:0,0,0", "\ufeffpre 0 1 0 1 0 0 0|-|0:0,0,0",
			" 0 1 0 1 0 0 0|-|0:0,0,0", "0 1 0 1 0 0 0|-|0:0,0,0", "1 0 1 0 1 0 0 0|-|0:0,0,0", "- 0 1 0 1 0 0 0|-|0:0,0,0", "none 0 1 0 1 0 0 0|-|0:0,0,0", "0 1 0 1 0 0 0 pre|-|0:0,0,0",
			"pre 0 1 0 1 0 0|-|0:0,0,0", "pre 0 1 0 1 0 0 0 0|-|0:0,0,0", "pre 0 1 0 1 0 0 0 0 0 0|-|0:0,0,0", "pre 0|-|0:0,0,0", "pre |-|0:0,0,0",
			" pre 0 1 0 1 0 0 0|-|0:0,0,0", "pre 0 1 0 1 0 0 0 |-|0:0,0,0", "pre  0 1 0 1 0 0 0|-|0:0,0,0", "pre 0 1  0 1 0 0 0|-|0:0,0,0",
			"pre 0 1  1 0 0 0|-|0:0,0,0", "pre  1 0 1 0 0 0|-|0:0,0,0", "pre 0 1 0 1 0 0 |-|0:0,0,0",
			"pre\t0 1 0 1 0 0 0|-|0:0,0,0", "pre 0 1 0\t1 0 0 0|-|0:0,0,0", "pre 0 1 0 1 0 0 0\n|-|0:0,0,0", "\npre 0 1 0 1 0 0 0|-|0:0,0,0",
			"pre 0 1 0 1 0 0 0\x00|-|0:0,0,0", "pre 0,1 0 1 0 0 0 0|-|0:0,0,0",
			"pre +0 1 0 1 0 0 0|-|0:0,0,0", "pre 0 +1 0 1 0 0 0|-|0:0,0,0", "pre 0 1 -0 1 0 0 0|-|0:0,0,0", "pre 0 1 0 -1 0 0 0|-|0:0,0,0",
			"pre 0 1 0 1 -8 0 0|-|0:0,0,0", "pre 0 1 0 1 0 +0 0|-|0:0,0,0", "pre 0 1 0 1 0 0 -|-|0:0,0,0",
			"pre 00 1 0 1 0 0 0|-|0:0,0,0", "pre 0 01 0 1 0 0 0|-|0:0,0,0", "pre 0 1 00 1 0 0 0|-|0:0,0,0", "pre 0 1 0 01 0 0 0|-|0:0,0,0",
			"pre 0 1 0 1 0008 0 0|-|0:0,0,0", "pre 0 1 0 1 0 00 0|-|0:0,0,0", "pre 0 1 0 1 0 0 00|-|0:0,0,0",
			"pre 10000 1 0 1 0 0 0|-|0:0,0,0", "pre 0 10000 0 1 0 0 0|-|0:0,0,0", "pre 0 1 10000 1 0 0 0|-|0:0,0,0", "pre 0 1 0 10000 0 0 0|-|0:0,0,0",
			"pre 0 1 0 1 10000 0 0|-|0:0,0,0", "pre 0 1 0 1 0 99999 0|-|0:0,0,0", "pre 0 1 0 1 0 0 00000|-|0:0,0,0",
			"pre 0 1 0 1 18446744073709551616 0 0|-|0:0,0,0", "pre 0 1 0 1 4294967296 0 0|-|0:0,0,0", "pre 0 1 0 1 0x8 0 0|-|0:0,0,0",
			"pre 0 1 0 1 1_0 0 0|-|0:0,0,0", "pre 0 1 0 1 8.0 0 0|-|0:0,0,0", "pre 0 1 0 1 1e1 0 0|-|0:0,0,0", "pre 0 1 0 1 \u0668 0 0|-|0:0,0,0",
			"pre 0 1 0 1 \xb8 0 0|-|0:0,0,0", "pre 0 1 0 x 0 0 0|-|0:0,0,0",
		},
		3: {
			"pre 0 1 0 1 0 0 0||0:0,0,0", "pre 0 1 0 1 0 0 0| |0:0,0,0", "pre 0 1 0 1 0 0 0|- |0:0,0,0", "pre 0 1 0 1 0 0 0| -|0:0,0,0",
			"pre 0 1 0 1 0 0 0|--|0:0,0,0", "pre 0 1 0 1 0 0 0|fly|0:0,0,0", "pre 0 1 0 1 0 0 0|0:0,0,0|0:0,0,0", "pre 0 1 0 1 0 0 0|pre|0:0,0,0",
			"pre 0 1 0 1 0 0 0|move 1 0 1|0:0,0,0", "pre 0 1 0 1 0 0 0|move 1 0 1 05|0:0,0,0", "pre 0 1 0 1 0 0 0|move 1 0 4 5|0:0,0,0",
			"pre 0 1 0 1 0 0 0|move 1 0 0 5|0:0,0,0", "pre 0 1 0 1 0 0 0|move 0 0 1 5|0:0,0,0", "pre 0 1 0 1 0 0 0|move 1 0 1 1001|0:0,0,0",
			"pre 0 1 0 1 0 0 0|read 1|0:0,0,0", "pre 0 1 0 1 0 0 0|read 1 4|0:0,0,0", "pre 0 1 0 1 0 0 0|read 1000 0|0:0,0,0",
			"pre 0 1 0 1 0 0 0|read 1 0 |0:0,0,0", "pre 0 1 0 1 0 0 0|read 1 0 0 0|0:0,0,0", "pre 0 1 0 1 0 0 0|-\xff|0:0,0,0", "preok 0 1 0 1 0 0 0||0:0,0,0",
		},
		4: {
			"pre 0 1 0 1 0 0 0|-|0:0,0", "pre 0 1 0 1 0 0 0|-|0:0,0,0,0", "pre 0 1 0 1 0 0 0|-|0:0,0,", "pre 0 1 0 1 0 0 0|-|0:,0,0",
			"pre 0 1 0 1 0 0 0|-|:0,0,0", "pre 0 1 0 1 0 0 0|-|0,0,0,0", "pre 0 1 0 1 0 0 0|-|0 0,0,0", "pre 0 1 0 1 0 0 0|-|-",
			"pre 0 1 0 1 0 0 0|-| 0:0,0,0", "pre 0 1 0 1 0 0 0|-|0: 0,0,0", "pre 0 1 0 1 0 0 0|-|0:0,0, 0", "pre 0 1 0 1 0 0 0|-|0:0,0,+0",
			"pre 0 1 0 1 0 0 0|-|-0:0,0,0", "pre 0 1 0 1 0 0 0|-|00:0,0,0", "pre 0 1 0 1 0 0 0|-|0:0,0,00", "pre 0 1 0 1 0 0 0|-|1000:0,0,0",
			"pre 0 1 0 1 0 0 0|-|0:0,0,7",
			"pre 0 1 0 1 0 0 0|-|0:0,0,\u0660", "pre 0 1 0 1 0 0 0|-|0:0,\xff,0", "preok 0 1 0 1 0 0 0|-|x:0,0,0", "prep 0 1 0 1 0 0 0|-|0:0,7,0",
		},
		5: {
			"pre 0 0 0 1 0 0 0|-|0:0,0,0", "pre 1 1 0 1 0 0 0|-|0:0,0,0", "pre 5 1 0 1 0 0 0|-|0:0,0,0", "pre 0 5 0 1 0 0 0|-|0:0,0,0",
			"pre 0 9999 0 1 0 0 0|-|0:0,0,0", "pre 0 1 5 1 0 0 0|-|0:0,0,0", "pre 0 1 0 0 0 0 0|-|0:0,0,0", "pre 0 1 0 7 0 0 0|-|0:0,0,0",
			"pre 0 1 0 1 0 1 0|-|0:0,0,0", "pre 0 1 0 1 8 8 0|-|0:0,0,0", "pre 0 1 0 1 0 0 1|-|0:0,0,0", "acc 0 1 0 1 0 0 2|-|0:0,0,0",
			"acc 0 1 0 1 9 1 0|-|0:0,0,0", "com 0 1 0 1 0 1 0|-|0:0,0,0", "com 0 1 0 1 0 0 3|-|0:0,0,0",
			"com 0 1 0 1 1 0 0|-|0:0,0,0", "com 0 1 0 1 9999 0 0|move 1 0 1 5|0:0,0,0", "preok 0 1 0 1 0 0 0|read 1 0|0:0,0,0",
			"preok 0 1 0 1 0 0 0|move 1 0 1 5|3:1,0,0", "preok 0 1 0 1 8 8 0|-|0:0,0,0", "preok 0 1 0 1 0 0 1|-|0:0,0,0",
			"accok 0 1 0 1 0 0 0|read 1 0|0:0,0,0", "accok 0 1 0 1 0 0 0|-|1:0,0,0", "accok 0 1 0 1 0 0 0|-|0:0,0,1", "accok 0 1 0 1 8 8 0|-|0:0,0,0",
			"accok 0 1 0 1 0 0 2|-|0:0,0,0", "prep 0 1 0 1 8 0 0|read 1 0|0:0,0,0", "prep 0 1 0 1 8 0 0|-|1:0,0,0", "prep 0 1 0 1 8 0 0|-|0:1,0,0",
			"prep 0 1 0 1 8 1 0|-|0:0,0,0", "prep 0 1 0 1 8 0 1|-|0:0,0,0",
			"prepok 0 1 0 1 8 1 0|-|0:0,0,0", "prepok 0 1 0 1 8 0 0|read 1 0|0:0,0,0", "prepok 0 1 0 1 8 0 0|-|1:0,0,0", "prepok 0 1 0 1 8 0 0|-|0:0,1,0",
			"prepok 0 1 0 1 8 9 1|-|0:0,0,0", "prepok 0 1 0 1 0 1 2|-|0:0,0,0", "prepok 0 1 0 1 8 0 3|-|0:0,0,0", "prepok 0 1 0 1 8 8 3|read 1 0|3:1,0,0",
			"prepok 0 1 0 1 8 0 4|-|0:0,0,0", "prepok 0 1 0 1 0 9999 1|-|0:0,0,0",
		},
	}
	for code, texts := range cases {
		eachMsgGroup(texts, func(n int, text string) { checkMsgCode(t, n, text, code) })
	}
}

func TestReadMsgFirstOfSeveralFaults(t *testing.T) {
	cases := map[int][]string{
		// Each text has the fault of its code and some of those of later codes.
		1: {"fly", "fly|", "fly|fly", "fly||fly|0:0,0", "pre 0 0 0 1 0 0 0|-", "pre 0 1 0 1 0 0 0|fly|-|0:0,0,0", "|||0:7,0,0", "pre 0 1 0 1 0 0|x"},
		2: {
			"||", "fly 0 1 0 1 0 0 0|fly|0:0,0,0", "fly||", "pre 0 1 0 1 0 0|move|0:7,0,0", "fly 0 0 0 1 0 0 0|-|0:0,0,0", "pre 00 0 0 1 0 0 0|-|0:0,0,7",
			"pre 0 0 0 0 0 0 0 0|-|0:0,0,0", " |-|x", "pre 0 1 0 1 10000 0 0|read 1 4|0:0,0,0", "com 0 0 0 0 01 0 0|-|0:0,0,0",
		},
		3: {
			"pre 0 1 0 1 0 0 0|fly|0:0,0", "pre 0 1 0 1 0 0 0||", "pre 0 0 0 0 0 0 0|fly|0:0,0,0", "pre 9 9 9 9 9 9 9|move 1 0 0 5|x",
			"preok 0 1 0 1 0 0 0|read 1 4|0:0,0,0", "com 0 1 0 1 9999 0 0|--|0:7,0,0",
		},
		4: {
			"pre 0 0 0 1 0 0 0|-|0:0,0", "pre 9 9 9 9 9 9 9|-|", "com 0 1 0 1 1 0 0|-|0:0,7,0", "preok 0 1 0 1 0 0 0|read 1 0|00:0,0,0",
			"prepok 0 1 0 1 0 9 3|read 1 0|1000:0,0,0", "accok 0 1 0 1 0 0 0|read 1 0|1:0,0,0,0",
		},
	}
	for code, texts := range cases {
		eachMsgGroup(texts, func(n int, text string) { checkMsgCode(t, n, text, code) })
	}
}

func TestReadMsgOfNoGroup(t *testing.T) {
	for _, n := range noGroups {
		for length := 1; length < 9; length++ {
			deps := strings.Repeat(",0", length)[1:]
			checkMsgCode(t, n, "pre 0 1 0 1 0 0 0|-|0:"+deps, 1)
			checkMsgCode(t, n, "fly 0 1 0 1 0 0 0|fly|0:"+deps, 1)
		}
		for _, text := range []string{"", "|", "||", "|||", "pre 0 1 0 1 0 0 0|-|", "pre 0 0 0 0 0 0 0|-|0:"} {
			checkMsgCode(t, n, text, 1)
		}
	}
}

func TestReadMsgOfBadMessages(t *testing.T) {
	seen := map[int]int{}
	for _, n := range groups {
		for _, m := range badMsgs(n) {
			text := plainMsgText(m)
			// A bad command may have the text of a good one.
			seen[checkReadMsg(t, n, text)]++
			checkMsgCode(t, n, text+"|", 1)
		}
	}
	if seen[2] == 0 || seen[3] == 0 || seen[4] == 0 || seen[5] == 0 {
		t.Error("codes told:", seen)
	}
}

func TestReadMsgOfAllParts(t *testing.T) {
	heads := []string{"", "fly 0 1 0 1 0 0 0", "pre 0 1 0 1 0 0", "pre 0 1 0 1 0 0 0 0", "pre 0 1 0 1 00 0 0", "com 2 1 0 6 8 0 0"}
	for _, word := range msgWords {
		heads = append(heads, word+" 0 1 0 1 0 0 0", word+" 2 1 1 6 9999 0 0", word+" 4 1 0 1 8 0 0", word+" 1 0 2 3 8 8 1", word+" 1 2 2 3 8 0 2", word+" 1 2 2 3 8 0 3")
	}
	cmds := []string{"", "-", "--", "fly", "move 1 0 3 5", "move 999 3 0 1000", "move 1 2 2 5", "read 7 2", "read 7 4", "read 7"}
	attrs := []string{"", "0:0,0,0", "1:0,0,0", "0:0,0,0,0,0", "999:6,6,6,6,6", "31:4,1,6", "0:0,0,7", "0:0,0", "1000:0,0,0,0,0"}
	seen := map[int]int{}
	for _, n := range groups {
		for _, head := range heads {
			for _, c := range cmds {
				for _, a := range attrs {
					seen[checkReadMsg(t, n, head+"|"+c+"|"+a)]++
					checkMsgCode(t, n, head+"|"+c+a, 1)
					checkMsgCode(t, n, head+"|"+c+"|"+a+"|", 1)
				}
			}
		}
	}
	for code := range 6 {
		if code != 1 && seen[code] == 0 {
			t.Error("no text with code", code)
		}
	}
}

func TestReadMsgOfEachHeadWord(t *testing.T) {
	words := []string{
		"", "0", "1", "2", "3", "4", "5", "6", "7", "8", "9", "10", "17", "999", "1000", "9998", "9999", "10000", "00", "01", "07", "0999",
		"-0", "-1", "+1", "+", "-", "x", "1x", "pre", "0 0", "1 ", " 1", "\t", "1.0", "1,0", "0x1", "1_0", "4294967297", "18446744073709551617",
	}
	for _, n := range groups {
		for _, m := range fullMsgs(n) {
			parts := strings.SplitN(plainMsgText(m), "|", 2)
			for at := range 8 {
				for _, word := range words {
					head := strings.Split(parts[0], " ")
					head[at] = word
					checkReadMsg(t, n, strings.Join(head, " ")+"|"+parts[1])
				}
				head := strings.Split(parts[0], " ")
				less := strings.Join(append(head[:at:at], head[at+1:]...), " ")
				checkMsgCode(t, n, less+"|"+parts[1], 2)
				more := strings.Join(append(head[:at:at], append([]string{"0"}, head[at:]...)...), " ")
				checkMsgCode(t, n, more+"|"+parts[1], 2)
			}
		}
	}
}

func TestPromise7ReadMsgOfChangedBytes(t *testing.T) {
	for _, n := range groups {
		for _, m := range fullMsgs(n) {
			text := plainMsgText(m)
			for at := range len(text) {
				for to := range 256 {
					one := string([]byte{byte(to)})
					checkOneMsgForm(t, n, text[:at]+one+text[at+1:])
					checkOneMsgForm(t, n, text[:at]+one+text[at:])
				}
				checkOneMsgForm(t, n, text[:at]+text[at+1:])
				checkOneMsgForm(t, n, text[:at])
				checkOneMsgForm(t, n, text[at+1:])
			}
			for to := range 256 {
				checkOneMsgForm(t, n, text+string([]byte{byte(to)}))
			}
		}
	}
}

// checkOneMsgForm is checkReadMsg, and reports where a text is read as what has
// another text.
func checkOneMsgForm(t *testing.T, n int, text string) {
	t.Helper()
	if checkReadMsg(t, n, text) != 0 {
		return
	}
	m, _, _ := impl.ReadMsg(n, text)
	if again, ok := impl.MsgText(n, m); again != text || !ok {
		t.Errorf("ReadMsg %d %q: MsgText of it is %q %v", n, text, again, ok)
	}
}

func TestPromise22ReadMsgOfLongTexts(t *testing.T) {
	const long = 1 << 20
	for _, n := range groups {
		deps := strings.Repeat(",0", n)[1:]
		for _, fill := range []string{"0", "9", " ", ":", ",", "-", "pre", " 0", "\x00", "\xff", "\u0660", "\n"} {
			rest := strings.Repeat(fill, long)
			checkMsgCode(t, n, rest, 1)
			checkMsgCode(t, n, rest+"|-|0:"+deps, 2)
			checkMsgCode(t, n, "pre"+rest+"|-|0:"+deps, 2)
			checkMsgCode(t, n, "pre 0 1 0 1 0 0 0"+rest+"|-|0:"+deps, 2)
			checkMsgCode(t, n, "pre 0 1 0 1 0 0 0|-"+rest+"|0:"+deps, 3)
			checkMsgCode(t, n, "pre 0 1 0 1 0 0 0|"+rest+"|0:"+deps, 3)
			checkMsgCode(t, n, "pre 0 1 0 1 0 0 0|-|0:"+deps+rest, 4)
			checkMsgCode(t, n, "pre 0 1 0 1 0 0 0|-|"+rest, 4)
		}
		for _, fill := range []string{"|", "pre 0 1 0 1 0 0 0|-|0:" + deps, "|-"} {
			checkMsgCode(t, n, strings.Repeat(fill, long/8), 1)
		}
		checkMsgCode(t, n, fmt.Sprintf("pre 0 1 0 1 %0*d 0 0|-|0:%s", long, 8, deps), 2)
	}
}
