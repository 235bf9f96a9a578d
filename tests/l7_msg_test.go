package tests

import (
	"fmt"
	"math"
	"slices"
	"testing"

	"loop.example/g00698/impl"
)

var msgKinds = []int{impl.MsPre, impl.MsPreOk, impl.MsAcc, impl.MsAccOk, impl.MsCom, impl.MsPrep, impl.MsPrepOk}

var msgWords = map[int]string{
	impl.MsPre: "pre", impl.MsPreOk: "preok", impl.MsAcc: "acc", impl.MsAccOk: "accok",
	impl.MsCom: "com", impl.MsPrep: "prep", impl.MsPrepOk: "prepok",
}

func msg(kind, from, to, rep, no, ballot int, c impl.Cmd, a impl.Attr) impl.Msg {
	return impl.Msg{Kind: kind, From: from, To: to, Rep: rep, No: no, Ballot: ballot, Cmd: c, Attr: a}
}

func cloneMsg(m impl.Msg) impl.Msg {
	m.Attr = cloneAttr(m.Attr)
	return m
}

// withRowOf is a message with what a row has.
func withRowOf(m impl.Msg, r impl.Row) impl.Msg {
	m.Ballot, m.Vote, m.State, m.Cmd, m.Attr = r.Ballot, r.Vote, r.State, r.Cmd, cloneAttr(r.Attr)
	return m
}

func rowOfMsg(m impl.Msg) impl.Row {
	return impl.Row{Ballot: m.Ballot, Vote: m.Vote, State: m.State, Cmd: m.Cmd, Attr: m.Attr}
}

// numbersOf is what a message has but its command and its attribute.
func numbersOf(m impl.Msg) [8]int {
	return [8]int{m.Kind, m.From, m.To, m.Rep, m.No, m.Ballot, m.Vote, m.State}
}

// plainSameMsg compares without the help of SameMsg.
func plainSameMsg(a, b impl.Msg) bool {
	return numbersOf(a) == numbersOf(b) && a.Cmd == b.Cmd && plainSame(a.Attr, b.Attr)
}

func isZeroMsg(m impl.Msg) bool {
	return plainSameMsg(m, impl.Msg{})
}

// plainMsgText is the text of a good message.
func plainMsgText(m impl.Msg) string {
	return fmt.Sprintf("%s %d %d %d %d %d %d %d|%s|%s", msgWords[m.Kind],
		m.From, m.To, m.Rep, m.No, m.Ballot, m.Vote, m.State, plainText(m.Cmd), plainAttrText(m.Attr))
}

func isBelow(n, number int) bool {
	return number >= 0 && number < n
}

// plainGoodMsg tells rule by rule whether a message is good.
func plainGoodMsg(n int, m impl.Msg) bool {
	if !slices.Contains(groups, n) || !isBelow(n, m.From) || !isBelow(n, m.To) || m.From == m.To {
		return false
	}
	if !slices.Contains(instancesOf(n), instance{m.Rep, m.No}) || !isBelow(10000, m.Ballot) {
		return false
	}
	isPlain := m.Vote == 0 && m.State == 0
	switch m.Kind {
	case impl.MsPre, impl.MsAcc:
		return isPlain && impl.GoodCmd(m.Cmd) && impl.GoodAttr(n, m.Attr)
	case impl.MsCom:
		return isPlain && impl.GoodCmd(m.Cmd) && impl.GoodAttr(n, m.Attr) && m.Ballot == 0
	case impl.MsPreOk:
		return isPlain && m.Cmd == impl.Cmd{} && impl.GoodAttr(n, m.Attr)
	case impl.MsAccOk, impl.MsPrep:
		return isPlain && m.Cmd == impl.Cmd{} && plainSame(m.Attr, emptyRow(n).Attr)
	case impl.MsPrepOk:
		return m.State != impl.RwCom && impl.GoodTable(table(n, []impl.Row{rowOfMsg(m)}))
	}
	return false
}

// someContents is what good messages of a kind may tell, in messages without a
// way and an instance.
func someContents(n, kind int) []impl.Msg {
	var contents []impl.Msg
	if kind == impl.MsPrepOk {
		for _, r := range someRows(n) {
			if r.State != impl.RwCom {
				contents = append(contents, withRowOf(impl.Msg{Kind: kind}, r))
			}
		}
		return contents
	}
	ballots, cmds, attrs := []int{0, 1, 8, 17, 9998, 9999}, []impl.Cmd{{}}, []impl.Attr{emptyRow(n).Attr}
	if kind == impl.MsCom {
		ballots = []int{0}
	}
	if kind == impl.MsPre || kind == impl.MsAcc || kind == impl.MsCom {
		cmds = someCmds([]int{1, 999}, []int{1, 1000})
	}
	if kind != impl.MsAccOk && kind != impl.MsPrep {
		all := someAttrs(n)
		for i := 0; i < len(all); i += 13 {
			attrs = append(attrs, all[i])
		}
		attrs = append(attrs, attr(999, slices.Repeat([]int{impl.MaxRow}, n)...))
	}
	for i := range max(len(ballots), len(cmds), len(attrs)) * len(ballots) {
		m := msg(kind, 0, 0, 0, 0, ballots[i%len(ballots)], cmds[i/len(ballots)%len(cmds)], attrs[i/len(ballots)%len(attrs)])
		contents = append(contents, cloneMsg(m))
	}
	return contents
}

// someWays is From, To, Rep and No of good messages, all that there are.
func someWays(n int) [][4]int {
	var ways [][4]int
	for from := range n {
		for to := range n {
			for _, at := range instancesOf(n) {
				if from != to {
					ways = append(ways, [4]int{from, to, at[0], at[1]})
				}
			}
		}
	}
	return ways
}

// someMsgs is good messages of each kind: all ways and all of someContents.
func someMsgs(n int) []impl.Msg {
	var msgs []impl.Msg
	ways := someWays(n)
	for _, kind := range msgKinds {
		contents := someContents(n, kind)
		for i := range max(len(ways), len(contents)) {
			m := cloneMsg(contents[i%len(contents)])
			way := ways[(7*i)%len(ways)]
			m.From, m.To, m.Rep, m.No = way[0], way[1], way[2], way[3]
			msgs = append(msgs, m)
		}
	}
	return msgs
}

// fullMsgs is good messages, one of each kind, of MsPrepOk one of each state,
// with as many fields as may be that are not as in other ones, nor 0.
func fullMsgs(n int) []impl.Msg {
	a := attr(31, []int{4, 1, 6, 2, 5}[:n]...)
	none := emptyRow(n).Attr
	msgs := []impl.Msg{
		msg(impl.MsPre, 2, 1, n-1, 6, 17, move(5, 3, 1, 90), a),
		msg(impl.MsPreOk, 2, 1, n-1, 6, 17, impl.Cmd{}, a),
		msg(impl.MsAcc, 2, 1, n-1, 6, 17, read(5, 3), a),
		msg(impl.MsAccOk, 2, 1, n-1, 6, 17, impl.Cmd{}, none),
		msg(impl.MsCom, 2, 1, n-1, 6, 0, move(5, 3, 1, 90), a),
		msg(impl.MsPrep, 2, 1, n-1, 6, 17, impl.Cmd{}, none),
		msg(impl.MsPrepOk, 2, 1, n-1, 6, 17, impl.Cmd{}, none),
		msg(impl.MsPrepOk, 2, 1, n-1, 6, 17, read(5, 3), a),
		msg(impl.MsPrepOk, 2, 1, n-1, 6, 17, move(5, 3, 1, 90), a),
	}
	msgs[7].Vote, msgs[7].State = 9, impl.RwPre
	msgs[8].Vote, msgs[8].State = 9, impl.RwAcc
	for i, m := range msgs {
		msgs[i] = cloneMsg(m)
	}
	return msgs
}

// msgChanges gathers messages that differ from a good one in few fields.
type msgChanges struct {
	from impl.Msg
	all  []impl.Msg
}

func (c *msgChanges) add(change func(*impl.Msg)) {
	m := cloneMsg(c.from)
	change(&m)
	c.all = append(c.all, m)
}

// badMsgs is messages of which each is bad for a group of n, most of them in
// one field alone.
func badMsgs(n int) []impl.Msg {
	bad := []impl.Msg{{}}
	for _, good := range fullMsgs(n) {
		c := msgChanges{from: good}
		c.addBadWays(n)
		c.addBadBallots()
		if good.Kind != impl.MsPrepOk {
			c.addVotes()
		}
		hasCmd := slices.Contains([]int{impl.MsPre, impl.MsAcc, impl.MsCom, impl.MsPrepOk}, good.Kind)
		c.addBadCmds(hasCmd)
		c.addBadAttrs(n, hasCmd || good.Kind == impl.MsPreOk)
		bad = append(bad, c.all...)
	}
	return append(bad, badReports(n)...)
}

func (c *msgChanges) addBadWays(n int) {
	for _, number := range []int{math.MinInt, -1, n, n + 1, 8, 2 + 1<<32, math.MaxInt} {
		c.add(func(m *impl.Msg) { m.From = number })
		c.add(func(m *impl.Msg) { m.To = number })
		c.add(func(m *impl.Msg) { m.From, m.To = number, number })
	}
	for rep := range n {
		c.add(func(m *impl.Msg) { m.From, m.To = rep, rep })
	}
	for _, at := range badInstances(n) {
		c.add(func(m *impl.Msg) { m.Rep, m.No = at[0], at[1] })
	}
	for _, kind := range []int{math.MinInt, -1, 0, 8, 9, c.from.Kind + 1<<32, math.MaxInt} {
		c.add(func(m *impl.Msg) { m.Kind = kind })
	}
}

func (c *msgChanges) addBadBallots() {
	for _, ballot := range badBallots {
		c.add(func(m *impl.Msg) { m.Ballot = ballot })
	}
	if c.from.Kind == impl.MsCom {
		for _, ballot := range []int{1, 2, 8, 17, 9998, 9999} {
			c.add(func(m *impl.Msg) { m.Ballot = ballot })
		}
	}
}

func (c *msgChanges) addVotes() {
	for _, number := range []int{math.MinInt, -1, 1, 2, 3, 4, 9, 17, 18, 9999, 1 << 32, math.MaxInt} {
		c.add(func(m *impl.Msg) { m.Vote = number })
		c.add(func(m *impl.Msg) { m.State = number })
	}
}

func (c *msgChanges) addBadCmds(hasCmd bool) {
	cmds := badCmds()
	if !hasCmd {
		cmds = append(cmds, move(1, 0, 1, 1), move(999, 3, 2, 1000), read(1, 0), read(999, 3))
	}
	for _, bad := range cmds {
		c.add(func(m *impl.Msg) { m.Cmd = bad })
	}
}

func (c *msgChanges) addBadAttrs(n int, hasAttr bool) {
	for _, a := range badAttrs(n) {
		c.add(func(m *impl.Msg) { m.Attr = cloneAttr(a) })
	}
	if hasAttr {
		return
	}
	for _, seq := range []int{1, 2, 999} {
		c.add(func(m *impl.Msg) { m.Attr.Seq = seq })
	}
	for rep := range n {
		for _, no := range []int{1, impl.MaxRow} {
			c.add(func(m *impl.Msg) { m.Attr.Deps[rep] = no })
		}
	}
}

// badReports is messages of MsPrepOk that are bad, each with a row that is bad
// or RwCom.
func badReports(n int) []impl.Msg {
	var bad []impl.Msg
	rows := badRows(n)
	for _, r := range someRows(n) {
		if r.State == impl.RwCom {
			rows = append(rows, r)
		}
	}
	for _, r := range rows {
		bad = append(bad, withRowOf(msg(impl.MsPrepOk, 2, 1, n-1, 6, 0, impl.Cmd{}, impl.Attr{}), r))
	}
	return bad
}

func TestMsgConstants(t *testing.T) {
	if !slices.Equal(msgKinds, []int{1, 2, 3, 4, 5, 6, 7}) {
		t.Error("kinds:", msgKinds)
	}
}

func TestGoodMsg(t *testing.T) {
	for _, n := range groups {
		for _, m := range append(someMsgs(n), fullMsgs(n)...) {
			if !impl.GoodMsg(n, m) {
				t.Error("not good:", n, m)
			}
		}
	}
}

func TestGoodMsgInvalid(t *testing.T) {
	for _, n := range groups {
		for _, m := range badMsgs(n) {
			if impl.GoodMsg(n, m) {
				t.Error("good:", n, m)
			}
		}
	}
}

func TestGoodMsgOfAnotherGroup(t *testing.T) {
	for _, n := range groups {
		for _, m := range append(someMsgs(n), fullMsgs(n)...) {
			for _, other := range append(noGroups, 8-n) {
				if impl.GoodMsg(other, m) {
					t.Error("good:", other, m)
				}
			}
		}
	}
	for _, n := range noGroups {
		for length := range 9 {
			for _, kind := range msgKinds {
				m := msg(kind, 0, 1, 0, 1, 0, impl.Cmd{}, attr(0, make([]int, length)...))
				if impl.GoodMsg(n, m) {
					t.Error("good:", n, m)
				}
			}
		}
	}
}

func TestGoodMsgAllBallots(t *testing.T) {
	for _, n := range groups {
		for _, m := range fullMsgs(n) {
			for ballot := -2; ballot < 10003; ballot++ {
				m.Ballot = ballot
				want := ballot >= m.Vote && ballot <= 9999 && (m.Kind != impl.MsCom || ballot == 0)
				if impl.GoodMsg(n, m) != want {
					t.Error("GoodMsg", n, m, !want)
				}
			}
		}
	}
}

func TestGoodMsgOfPrepOkStatesAndVotes(t *testing.T) {
	for _, n := range groups {
		for _, m := range fullMsgs(n)[6:] {
			for state := -1; state < 5; state++ {
				for _, vote := range []int{-1, 0, 1, 9, 16, 17, 18, 9999} {
					got := cloneMsg(m)
					got.State, got.Vote = state, vote
					isVote := vote >= 0 && vote <= 17
					isNone := vote == 0 && m.State == impl.RwNone
					want := state == impl.RwNone && isNone || (state == impl.RwPre || state == impl.RwAcc) && isVote
					if impl.GoodMsg(n, got) != want {
						t.Error("GoodMsg", n, got, !want)
					}
				}
			}
		}
	}
}

func TestGoodMsgWithCmNone(t *testing.T) {
	for _, n := range groups {
		for _, m := range fullMsgs(n) {
			m.Cmd = impl.Cmd{}
			if !impl.GoodMsg(n, m) {
				t.Error("not good:", n, m)
			}
		}
	}
}

func TestMsgTextWrittenOut(t *testing.T) {
	report := msg(impl.MsPrepOk, 2, 1, 0, 3, 9999, read(7, 3), attr(12, 1, 0, 6))
	report.Vote, report.State = 25, impl.RwAcc
	pre := msg(impl.MsPrepOk, 4, 3, 2, 1, 25, move(999, 3, 0, 1000), attr(999, 6, 5, 4, 3, 2))
	pre.Vote, pre.State = 25, impl.RwPre
	none3, none5 := attr(0, 0, 0, 0), attr(0, 0, 0, 0, 0, 0)
	cases := map[string]impl.Msg{
		"pre 0 1 0 1 0 0 0|move 7 0 2 30|1:0,0,0":                msg(impl.MsPre, 0, 1, 0, 1, 0, move(7, 0, 2, 30), attr(1, 0, 0, 0)),
		"pre 1 2 1 6 9999 0 0|-|0:0,0,0":                         msg(impl.MsPre, 1, 2, 1, 6, 9999, impl.Cmd{}, none3),
		"preok 2 0 1 4 17 0 0|-|31:4,1,6":                        msg(impl.MsPreOk, 2, 0, 1, 4, 17, impl.Cmd{}, attr(31, 4, 1, 6)),
		"preok 4 0 3 6 0 0 0|-|0:0,0,0,0,0":                      msg(impl.MsPreOk, 4, 0, 3, 6, 0, impl.Cmd{}, none5),
		"acc 3 4 2 5 8 0 0|read 1 0|2:0,1,0,2,0":                 msg(impl.MsAcc, 3, 4, 2, 5, 8, read(1, 0), attr(2, 0, 1, 0, 2, 0)),
		"accok 0 4 3 1 10 0 0|-|0:0,0,0,0,0":                     msg(impl.MsAccOk, 0, 4, 3, 1, 10, impl.Cmd{}, none5),
		"com 1 0 2 3 0 0 0|move 1 3 0 1|100:6,6,6":               msg(impl.MsCom, 1, 0, 2, 3, 0, move(1, 3, 0, 1), attr(100, 6, 6, 6)),
		"prep 2 1 0 6 1000 0 0|-|0:0,0,0":                        msg(impl.MsPrep, 2, 1, 0, 6, 1000, impl.Cmd{}, none3),
		"prepok 0 2 1 5 9999 0 0|-|0:0,0,0":                      msg(impl.MsPrepOk, 0, 2, 1, 5, 9999, impl.Cmd{}, none3),
		"prepok 2 1 0 3 9999 25 2|read 7 3|12:1,0,6":             report,
		"prepok 4 3 2 1 25 25 1|move 999 3 0 1000|999:6,5,4,3,2": pre,
		"prepok 1 4 0 2 0 0 0|-|0:0,0,0,0,0":                     msg(impl.MsPrepOk, 1, 4, 0, 2, 0, impl.Cmd{}, none5),
		"acc 0 2 2 1 1 0 0|-|1:0,0,5":                            msg(impl.MsAcc, 0, 2, 2, 1, 1, impl.Cmd{}, attr(1, 0, 0, 5)),
		"com 4 1 4 6 0 0 0|move 123 2 1 456|789:1,2,3,4,5":       msg(impl.MsCom, 4, 1, 4, 6, 0, move(123, 2, 1, 456), attr(789, 1, 2, 3, 4, 5)),
		"prep 4 3 4 6 9999 0 0|-|0:0,0,0,0,0":                    msg(impl.MsPrep, 4, 3, 4, 6, 9999, impl.Cmd{}, none5),
		"accok 1 0 0 1 0 0 0|-|0:0,0,0":                          msg(impl.MsAccOk, 1, 0, 0, 1, 0, impl.Cmd{}, none3),
		"pre 3 2 4 4 4321 0 0|move 42 1 2 100|7:0,0,0,0,6":       msg(impl.MsPre, 3, 2, 4, 4, 4321, move(42, 1, 2, 100), attr(7, 0, 0, 0, 0, 6)),
		"preok 0 1 2 2 9998 0 0|-|999:0,0,1":                     msg(impl.MsPreOk, 0, 1, 2, 2, 9998, impl.Cmd{}, attr(999, 0, 0, 1)),
	}
	for want, m := range cases {
		n := len(m.Attr.Deps)
		if got, ok := impl.MsgText(n, m); got != want || !ok {
			t.Errorf("MsgText %d %v: %q %v", n, m, got, ok)
		}
		if got, code, ok := impl.ReadMsg(n, want); !plainSameMsg(got, m) || code != 0 || !ok {
			t.Errorf("ReadMsg %d %q: %v %d %v", n, want, got, code, ok)
		}
		checkMsgCode(t, 8-n, want, 4)
	}
}

func TestMsgTextInvalid(t *testing.T) {
	check := func(n int, m impl.Msg) {
		t.Helper()
		if got, ok := impl.MsgText(n, m); got != "" || ok {
			t.Errorf("MsgText %d %v: %q %v", n, m, got, ok)
		}
	}
	for _, n := range groups {
		for _, m := range badMsgs(n) {
			check(n, m)
		}
		for _, m := range fullMsgs(n) {
			for _, other := range append(noGroups, 8-n) {
				check(other, m)
			}
		}
	}
}

func TestPromise7ReadMsgInvertsMsgText(t *testing.T) {
	for _, n := range groups {
		for _, m := range append(someMsgs(n), fullMsgs(n)...) {
			text, ok := impl.MsgText(n, m)
			if want := plainMsgText(m); text != want || !ok {
				t.Fatalf("MsgText %d %v: %q %v", n, m, text, ok)
			}
			got, code, ok := impl.ReadMsg(n, text)
			if !plainSameMsg(got, m) || code != 0 || !ok || !impl.SameMsg(got, m) {
				t.Fatalf("ReadMsg %d %q: %v %d %v", n, text, got, code, ok)
			}
		}
	}
}

func TestPromise7OfAllNumbers(t *testing.T) {
	for _, n := range groups {
		for _, m := range fullMsgs(n) {
			for number := range 10000 {
				m.Ballot = number
				if m.Kind == impl.MsPrepOk && m.State != impl.RwNone {
					m.Ballot, m.Vote = 9999, number
				}
				if m.Kind == impl.MsCom {
					m.Ballot, m.Cmd.Id = 0, number%999+1
				}
				text, _ := impl.MsgText(n, m)
				got, code, ok := impl.ReadMsg(n, text)
				if text != plainMsgText(m) || !plainSameMsg(got, m) || code != 0 || !ok {
					t.Fatalf("%d %v: %q, read %v %d %v", n, m, text, got, code, ok)
				}
			}
		}
	}
}

func TestSameMsgOfGoodOnes(t *testing.T) {
	for _, n := range groups {
		msgs := someMsgs(n)
		for i, a := range msgs {
			if !impl.SameMsg(a, cloneMsg(a)) {
				t.Error("not the same:", a)
			}
			// Those that follow a differ in little, those far off in much.
			for _, step := range []int{1, 2, 3, 5, 30, 101, 999} {
				b := msgs[(i+step)%len(msgs)]
				if got := impl.SameMsg(a, b); got != plainSameMsg(a, b) {
					t.Error("SameMsg", a, b, got)
				}
			}
		}
	}
}

func TestSameMsgOfBadOnes(t *testing.T) {
	for _, n := range groups {
		msgs := append(badMsgs(n), fullMsgs(n)...)
		for i := 0; i < len(msgs); i += 5 {
			for j := i % 7; j < len(msgs); j += 7 {
				a, b := msgs[i], msgs[j]
				if got := impl.SameMsg(a, cloneMsg(b)); got != plainSameMsg(a, b) {
					t.Error("SameMsg", a, b, got)
				}
			}
		}
	}
}

// fieldsOf is all numbers of a message.
func fieldsOf(m *impl.Msg) []*int {
	fields := []*int{
		&m.Kind, &m.From, &m.To, &m.Rep, &m.No, &m.Ballot, &m.Vote, &m.State,
		&m.Cmd.Kind, &m.Cmd.Id, &m.Cmd.From, &m.Cmd.To, &m.Cmd.Amount, &m.Attr.Seq,
	}
	for rep := range m.Attr.Deps {
		fields = append(fields, &m.Attr.Deps[rep])
	}
	return fields
}

func TestSameMsgOfOneUnlikeField(t *testing.T) {
	unlike := []int{math.MinInt, -1, 0, 1, 2, 3, 4, 5, 6, 7, 9, 17, 9999, 1 << 32, 1 + 1<<32, math.MaxInt}
	var msgs []impl.Msg
	for _, n := range groups {
		msgs = append(msgs, fullMsgs(n)...)
	}
	msgs = append(msgs, impl.Msg{}, msg(9, 9, 9, 9, 9, 9, impl.Cmd{Kind: 9, To: 9}, attr(9, 9, 9, 9, 9, 9, 9, 9, 9, 9, 9, 9)))
	for _, a := range msgs {
		for at := range fieldsOf(&a) {
			for _, number := range unlike {
				b := cloneMsg(a)
				field := fieldsOf(&b)[at]
				want := *field == number
				*field = number
				if impl.SameMsg(a, b) != want || impl.SameMsg(b, a) != want {
					t.Error("SameMsg", a, b, !want)
				}
			}
		}
	}
}

func TestSameMsgOfUnlikeLengths(t *testing.T) {
	for length := range 16 {
		for other := range 16 {
			a := msg(impl.MsPre, 0, 1, 0, 1, 8, read(5, 2), attr(3, make([]int, length)...))
			b := msg(impl.MsPre, 0, 1, 0, 1, 8, read(5, 2), attr(3, make([]int, other)...))
			if got := impl.SameMsg(a, b); got != (length == other) {
				t.Error("SameMsg of", length, "and", other, "Deps:", got)
			}
		}
	}
	a, b := impl.Msg{Kind: impl.MsPrep}, impl.Msg{Kind: impl.MsPrep, Attr: impl.Attr{Deps: []int{}}}
	if !impl.SameMsg(a, b) || !impl.SameMsg(b, a) {
		t.Error("no Deps and empty ones are not the same")
	}
}
