package tests

import (
	"slices"
	"testing"

	"loop.example/g00698/impl"
)

// A stepCase is what a replica is and does, and what comes of it, in words:
// what it is then, as stateOf tells, and what it sends. Where state is nil it
// is as it was; where it is noAnswer, there is none.
type stepCase struct {
	name  string
	r     impl.Replica
	step  step
	state []string
	sent  []string
}

type step func(impl.Replica) (impl.Replica, []impl.Msg, bool)

var noAnswer = []string{"no answer"}

func submit(c impl.Cmd) step {
	return func(r impl.Replica) (impl.Replica, []impl.Msg, bool) { return impl.SubmitTo(r, c) }
}

// take is TakeMsg of the message of the replica's group with that text.
func take(text string) step {
	return func(r impl.Replica) (impl.Replica, []impl.Msg, bool) {
		m, code := plainReadMsg(r.Table.N, text)
		if code != 0 {
			panic("no message: " + text)
		}
		return impl.TakeMsg(r, m)
	}
}

func recoverAt(rep, no int) step {
	return func(r impl.Replica) (impl.Replica, []impl.Msg, bool) { return impl.RecoverAt(r, rep, no) }
}

func hurry(rep, no int) step {
	return func(r impl.Replica) (impl.Replica, []impl.Msg, bool) { return impl.HurryAt(r, rep, no) }
}

func checkSteps(t *testing.T, cases []stepCase) {
	t.Helper()
	for _, c := range cases {
		if !impl.GoodReplica(c.r) {
			t.Errorf("%s: not good: %v", c.name, c.r)
		}
		got, sent, ok := c.step(c.r)
		if slices.Equal(c.state, noAnswer) {
			if ok || !sameReplica(got, impl.Replica{}) || len(sent) != 0 {
				t.Errorf("%s: %v, sent %v, %v, not the zero answer", c.name, got, sent, ok)
			}
			continue
		}
		state := c.state
		if state == nil {
			state = stateOf(c.r)
		}
		if !slices.Equal(stateOf(got), state) || !slices.Equal(textsOf(sent), c.sent) || !ok {
			t.Errorf("%s:\n%q, sent %q, %v, not\n%q, sent %q", c.name, stateOf(got), textsOf(sent), ok, state, c.sent)
		}
		if !impl.GoodReplica(got) || got.Me != c.r.Me || got.Table.N != c.r.Table.N {
			t.Errorf("%s: not good any more: %v", c.name, got)
		}
	}
}

var (
	moved = move(7, 0, 2, 30)
	asked = read(8, 2)
	other = read(9, 1)
)

// voter is replica 1 of 3, whose row of instance 0.1 is r.
func voter(r impl.Row, leads ...impl.Lead) impl.Replica {
	return replica(1, table(3, []impl.Row{r}), leads...)
}

// leader is replica 0 of 3, whose row of instance 0.1 is r.
func leader(r impl.Row, leads ...impl.Lead) impl.Replica {
	return replica(0, table(3, []impl.Row{r}), leads...)
}

func TestTakePreOfUnlikeRows(t *testing.T) {
	a, none := attr(4, 0, 0, 2), emptyRow(3).Attr
	pre := func(ballot string) step { return take("pre 0 1 0 1 " + ballot + " 0 0|move 7 0 2 30|1:0,0,0") }
	voted := func(ballot string) []string {
		return []string{"0.1 pre " + ballot + " " + ballot + "|move 7 0 2 30|1:0,0,0"}
	}
	ok := func(ballot string) []string { return []string{"preok 1 0 0 1 " + ballot + " 0 0|-|1:0,0,0"} }
	own := func(ballot string) []string { return []string{"preok 1 0 0 1 " + ballot + " 0 0|-|4:0,0,2"} }
	com := []string{"com 1 0 0 1 0 0 0|read 8 2|4:0,0,2"}
	checkSteps(t, []stepCase{
		{"no row", replica(1, table(3)), pre("0"), voted("0"), ok("0")},
		{"no row, Ballot 8", replica(1, table(3)), pre("8"), voted("8"), ok("8")},
		{"no row, Ballot 9999", replica(1, table(3)), pre("9999"), voted("9999"), ok("9999")},
		{"an empty row", voter(emptyRow(3)), pre("0"), voted("0"), ok("0")},
		{"none, below", voter(promised(3, 9)), pre("8"), nil, nil},
		{"none, Ballot 0 below", voter(promised(3, 8)), pre("0"), nil, nil},
		{"none, at", voter(promised(3, 9)), pre("9"), voted("9"), ok("9")},
		{"none, above", voter(promised(3, 9)), pre("10"), voted("10"), ok("10")},
		{"pre 0, at the Vote", voter(row(impl.RwPre, 0, 0, asked, a)), pre("0"), nil, own("0")},
		{"pre 9 9, at the Vote", voter(row(impl.RwPre, 9, 9, asked, a)), pre("9"), nil, own("9")},
		{"pre 9 9, above", voter(row(impl.RwPre, 9, 9, asked, a)), pre("10"), voted("10"), ok("10")},
		{"pre 9 9, below", voter(row(impl.RwPre, 9, 9, asked, a)), pre("8"), nil, nil},
		{"pre 9 0, at the Ballot", voter(row(impl.RwPre, 9, 0, asked, a)), pre("9"), voted("9"), ok("9")},
		{"pre 9 0, at the Vote", voter(row(impl.RwPre, 9, 0, asked, a)), pre("0"), nil, nil},
		{"pre 9 8, at the Vote", voter(row(impl.RwPre, 9, 8, asked, a)), pre("8"), nil, nil},
		{"pre 9 8, above", voter(row(impl.RwPre, 9, 8, asked, a)), pre("16"), voted("16"), ok("16")},
		{"acc 0, at the Vote", voter(row(impl.RwAcc, 0, 0, asked, a)), pre("0"), nil, nil},
		{"acc 9 9, at the Vote", voter(row(impl.RwAcc, 9, 9, asked, a)), pre("9"), nil, nil},
		{"acc 9 9, below", voter(row(impl.RwAcc, 9, 9, asked, a)), pre("8"), nil, nil},
		{"acc 9 9, above", voter(row(impl.RwAcc, 9, 9, asked, a)), pre("10"), voted("10"), ok("10")},
		{"acc 9 0, at the Ballot", voter(row(impl.RwAcc, 9, 0, asked, a)), pre("9"), voted("9"), ok("9")},
		{"acc 9 8, at the Ballot", voter(row(impl.RwAcc, 9, 8, asked, a)), pre("9"), voted("9"), ok("9")},
		{"acc 9 8, at the Vote", voter(row(impl.RwAcc, 9, 8, asked, a)), pre("8"), nil, nil},
		{"com 0, at", voter(row(impl.RwCom, 0, 0, asked, a)), pre("0"), nil, com},
		{"com 9 9, below", voter(row(impl.RwCom, 9, 9, asked, a)), pre("8"), nil, com},
		{"com 9 0, at", voter(row(impl.RwCom, 9, 0, asked, a)), pre("9"), nil, com},
		{"com 9 8, above", voter(row(impl.RwCom, 9, 8, asked, a)), pre("10"), nil, com},
		{"com of nothing", voter(row(impl.RwCom, 9, 8, impl.Cmd{}, none)), pre("10"), nil, []string{"com 1 0 0 1 0 0 0|-|0:0,0,0"}},
		{"own lead stays", voter(promised(3, 9), accLead(instance{0, 1}, 9, asked, a, 1)), pre("10"),
			append(voted("10"), "0.1 leads acc 9|read 8 2|4:0,0,2|4:0,0,2|false|[1]|"), ok("10")},
	})
}

func TestTakePreJoinsAttributes(t *testing.T) {
	rows := func(seq int) impl.Replica {
		return replica(1, table(3, nil, []impl.Row{
			row(impl.RwPre, 0, 0, asked, attr(seq, 0, 0, 0)), row(impl.RwCom, 0, 0, other, attr(900, 0, 0, 5)),
		}, []impl.Row{promised(3, 8), row(impl.RwAcc, 9, 8, read(3, 0), attr(2, 0, 0, 0)), emptyRow(3)}))
	}
	state := func(own string) []string {
		return []string{own, "1.1 pre 0 0|read 8 2|4:0,0,0", "1.2 com 0 0|read 9 1|900:0,0,5", "2.1 none 8 0|-|0:0,0,0", "2.2 acc 9 8|read 3 0|2:0,0,0", "2.3 none 0 0|-|0:0,0,0"}
	}
	three := row(impl.RwPre, 0, 0, asked, attr(999, 0, 0, 0))
	checkSteps(t, []stepCase{
		{"own ones", rows(4), take("pre 0 1 0 1 0 0 0|move 7 0 2 30|1:0,0,0"), state("0.1 pre 0 0|move 7 0 2 30|5:0,1,2"), []string{"preok 1 0 0 1 0 0 0|-|5:0,1,2"}},
		{"its ones, too", rows(4), take("pre 2 1 0 1 8 0 0|move 7 0 2 30|3:2,0,6"), state("0.1 pre 8 8|move 7 0 2 30|5:2,1,6"), []string{"preok 1 2 0 1 8 0 0|-|5:2,1,6"}},
		{"its ones alone", rows(4), take("pre 2 1 0 1 8 0 0|move 7 3 1 30|30:6,6,6"), state("0.1 pre 8 8|move 7 3 1 30|901:6,6,6"), []string{"preok 1 2 0 1 8 0 0|-|901:6,6,6"}},
		{"no command", rows(4), take("pre 0 1 0 1 0 0 0|-|0:0,3,0"), state("0.1 pre 0 0|-|1:0,3,0"), []string{"preok 1 0 0 1 0 0 0|-|1:0,3,0"}},
		{"Seq 999", rows(998), take("pre 0 1 0 1 0 0 0|read 2 2|1:0,0,0"),
			[]string{"0.1 pre 0 0|read 2 2|999:0,1,0", "1.1 pre 0 0|read 8 2|998:0,0,0", "1.2 com 0 0|read 9 1|900:0,0,5", "2.1 none 8 0|-|0:0,0,0", "2.2 acc 9 8|read 3 0|2:0,0,0", "2.3 none 0 0|-|0:0,0,0"},
			[]string{"preok 1 0 0 1 0 0 0|-|999:0,1,0"}},
		{"no Seq is left", rows(999), take("pre 0 1 0 1 0 0 0|read 2 2|1:0,0,0"), noAnswer, nil},
		{"no Seq is left, but the vote is there", replica(1, table(3, []impl.Row{row(impl.RwPre, 9, 9, asked, attr(4, 0, 0, 2))}, []impl.Row{three})),
			take("pre 0 1 0 1 9 0 0|move 7 0 2 30|1:0,0,0"), nil, []string{"preok 1 0 0 1 9 0 0|-|4:0,0,2"}},
		{"no Seq is left, but the Ballot is below", replica(1, table(3, []impl.Row{promised(3, 9)}, []impl.Row{three})), take("pre 0 1 0 1 8 0 0|move 7 0 2 30|1:0,0,0"), nil, nil},
		{"no Seq is left but in the own row", voter(row(impl.RwPre, 0, 0, asked, attr(999, 0, 0, 0))), take("pre 0 1 0 1 8 0 0|move 7 0 2 30|1:0,0,0"),
			[]string{"0.1 pre 8 8|move 7 0 2 30|1:0,0,0"}, []string{"preok 1 0 0 1 8 0 0|-|1:0,0,0"}},
		{"behind the end of a list", replica(2, table(3)), take("pre 0 2 1 3 9 0 0|move 7 0 2 30|1:0,0,0"),
			[]string{"1.1 none 0 0|-|0:0,0,0", "1.2 none 0 0|-|0:0,0,0", "1.3 pre 9 9|move 7 0 2 30|1:0,0,0"}, []string{"preok 2 0 1 3 9 0 0|-|1:0,0,0"}},
	})
}

func TestTakePreOkOfThree(t *testing.T) {
	at, first, a := instance{0, 1}, attr(1, 0, 0, 0), attr(2, 0, 2, 0)
	own := row(impl.RwPre, 0, 0, moved, first)
	asks := func(same bool, who ...int) impl.Replica {
		return leader(own, preLead(at, 0, moved, first, first, same, who...))
	}
	again := func(r impl.Row, who ...int) impl.Replica {
		return leader(r, preLead(at, 9, moved, first, first, true, who...))
	}
	acc := func(attr string) []string {
		return []string{"acc 0 1 0 1 0 0 0|move 7 0 2 30|" + attr, "acc 0 2 0 1 0 0 0|move 7 0 2 30|" + attr}
	}
	com := []string{"com 0 1 0 1 0 0 0|move 7 0 2 30|1:0,0,0", "com 0 2 0 1 0 0 0|move 7 0 2 30|1:0,0,0"}
	accepted := func(attr string) []string {
		return []string{"0.1 acc 0 0|move 7 0 2 30|" + attr, "0.1 leads acc 0|move 7 0 2 30|" + attr + "|" + attr + "|false|[0]|"}
	}
	wasPre := "0.1 pre 0 0|move 7 0 2 30|1:0,0,0"
	checkSteps(t, []stepCase{
		{"alike", asks(true, 0), take("preok 1 0 0 1 0 0 0|-|1:0,0,0"), []string{wasPre, "0.1 leads pre 0|move 7 0 2 30|1:0,0,0|1:0,0,0|true|[0 1]|"}, nil},
		{"alike, from 2", asks(true, 0), take("preok 2 0 0 1 0 0 0|-|1:0,0,0"), []string{wasPre, "0.1 leads pre 0|move 7 0 2 30|1:0,0,0|1:0,0,0|true|[0 2]|"}, nil},
		{"all alike", asks(true, 0, 1), take("preok 2 0 0 1 0 0 0|-|1:0,0,0"), []string{"0.1 com 0 0|move 7 0 2 30|1:0,0,0"}, com},
		{"all alike, 1 last", asks(true, 0, 2), take("preok 1 0 0 1 0 0 0|-|1:0,0,0"), []string{"0.1 com 0 0|move 7 0 2 30|1:0,0,0"}, com},
		{"greater Seq", asks(true, 0), take("preok 1 0 0 1 0 0 0|-|2:0,0,0"), accepted("2:0,0,0"), acc("2:0,0,0")},
		{"more Deps", asks(true, 0), take("preok 1 0 0 1 0 0 0|-|1:0,3,0"), accepted("1:0,3,0"), acc("1:0,3,0")},
		{"less than First", asks(true, 0), take("preok 1 0 0 1 0 0 0|-|0:0,0,0"), accepted("1:0,0,0"), acc("1:0,0,0")},
		{"nearly all alike", asks(true, 0, 1), take("preok 2 0 0 1 0 0 0|-|2:0,0,4"), accepted("2:0,0,4"), acc("2:0,0,4")},
		{"unlike ahead", asks(false, 0), take("preok 1 0 0 1 0 0 0|-|1:0,0,0"), accepted("1:0,0,0"), acc("1:0,0,0")},
		{"unlike ahead, all", asks(false, 0, 1), take("preok 2 0 0 1 0 0 0|-|1:0,0,0"), accepted("1:0,0,0"), acc("1:0,0,0")},
		{"like Attr, but unlike First", leader(own, preLead(at, 0, moved, first, a, true, 0)), take("preok 1 0 0 1 0 0 0|-|2:0,2,0"), accepted("2:0,2,0"), acc("2:0,2,0")},
		{"like First, but unlike Attr", leader(own, preLead(at, 0, moved, first, a, true, 0, 2)), take("preok 1 0 0 1 0 0 0|-|1:0,0,0"), []string{"0.1 com 0 0|move 7 0 2 30|1:0,0,0"}, com},
		{"joined with Attr", leader(own, preLead(at, 0, moved, first, a, true, 0)), take("preok 1 0 0 1 0 0 0|-|1:1,0,5"), accepted("2:1,2,5"), acc("2:1,2,5")},
		{"Ballot 9, alike", again(row(impl.RwPre, 9, 9, moved, first), 0), take("preok 1 0 0 1 9 0 0|-|1:0,0,0"),
			[]string{"0.1 acc 9 9|move 7 0 2 30|1:0,0,0", "0.1 leads acc 9|move 7 0 2 30|1:0,0,0|1:0,0,0|false|[0]|"},
			[]string{"acc 0 1 0 1 9 0 0|move 7 0 2 30|1:0,0,0", "acc 0 2 0 1 9 0 0|move 7 0 2 30|1:0,0,0"}},
		{"Ballot 9, all alike", again(row(impl.RwPre, 9, 9, moved, first), 0, 1), take("preok 2 0 0 1 9 0 0|-|1:0,0,0"),
			[]string{"0.1 acc 9 9|move 7 0 2 30|1:0,0,0", "0.1 leads acc 9|move 7 0 2 30|1:0,0,0|1:0,0,0|false|[0]|"},
			[]string{"acc 0 1 0 1 9 0 0|move 7 0 2 30|1:0,0,0", "acc 0 2 0 1 9 0 0|move 7 0 2 30|1:0,0,0"}},
		{"Ballot 9, the row is above", again(row(impl.RwPre, 10, 9, moved, first), 0), take("preok 1 0 0 1 9 0 0|-|1:0,0,0"), []string{"0.1 pre 10 9|move 7 0 2 30|1:0,0,0"}, nil},
		{"Ballot 9, the row is below", again(row(impl.RwPre, 8, 8, asked, first), 0), take("preok 1 0 0 1 9 0 0|-|3:0,0,0"),
			[]string{"0.1 acc 9 9|move 7 0 2 30|3:0,0,0", "0.1 leads acc 9|move 7 0 2 30|3:0,0,0|3:0,0,0|false|[0]|"},
			[]string{"acc 0 1 0 1 9 0 0|move 7 0 2 30|3:0,0,0", "acc 0 2 0 1 9 0 0|move 7 0 2 30|3:0,0,0"}},
		{"unlike, the row is above", leader(row(impl.RwPre, 9, 0, moved, first), preLead(at, 0, moved, first, first, true, 0)), take("preok 1 0 0 1 0 0 0|-|2:0,0,0"), []string{"0.1 pre 9 0|move 7 0 2 30|1:0,0,0"}, nil},
		{"all alike, the row is above", leader(row(impl.RwPre, 9, 0, moved, first), preLead(at, 0, moved, first, first, true, 0, 1)), take("preok 2 0 0 1 0 0 0|-|1:0,0,0"), []string{"0.1 com 9 0|move 7 0 2 30|1:0,0,0"}, com},
		{"all alike, the row is of another", leader(row(impl.RwAcc, 17, 10, asked, a), preLead(at, 0, moved, first, first, true, 0, 1)), take("preok 2 0 0 1 0 0 0|-|1:0,0,0"), []string{"0.1 com 17 10|move 7 0 2 30|1:0,0,0"}, com},
		{"no row", replica(0, table(3), preLead(at, 0, moved, first, first, true, 0, 1)), take("preok 2 0 0 1 0 0 0|-|1:0,0,0"), []string{"0.1 com 0 0|move 7 0 2 30|1:0,0,0"}, com},
		{"twice", asks(true, 0, 1), take("preok 1 0 0 1 0 0 0|-|1:0,0,0"), nil, nil},
		{"twice, unlike now", asks(true, 0, 1), take("preok 1 0 0 1 0 0 0|-|9:0,0,6"), nil, nil},
		{"of a lower Ballot", again(row(impl.RwPre, 9, 9, moved, first), 0), take("preok 1 0 0 1 8 0 0|-|1:0,0,0"), nil, nil},
		{"of Ballot 0", again(row(impl.RwPre, 9, 9, moved, first), 0), take("preok 1 0 0 1 0 0 0|-|1:0,0,0"), nil, nil},
		{"of a higher Ballot", asks(true, 0), take("preok 1 0 0 1 9 0 0|-|1:0,0,0"), nil, nil},
		{"to LdAcc", leader(row(impl.RwAcc, 0, 0, moved, a), accLead(at, 0, moved, a, 0)), take("preok 1 0 0 1 0 0 0|-|2:0,2,0"), nil, nil},
		{"to LdPrep", leader(promised(3, 9), prepLead(at, 9, []impl.Row{emptyRow(3)}, 0)), take("preok 1 0 0 1 9 0 0|-|0:0,0,0"), nil, nil},
		{"to no lead", leader(own), take("preok 1 0 0 1 0 0 0|-|1:0,0,0"), nil, nil},
		{"to a lead of another instance", leader(own, preLead(instance{0, 2}, 0, moved, first, first, true, 0)), take("preok 1 0 0 1 0 0 0|-|1:0,0,0"), nil, nil},
		{"com", leader(row(impl.RwCom, 0, 0, asked, a), preLead(at, 0, moved, first, first, true, 0, 1)), take("preok 2 0 0 1 0 0 0|-|1:0,0,0"), nil, nil},
	})
}

func TestTakePreOkOfFive(t *testing.T) {
	at, first := instance{4, 2}, attr(3, 0, 0, 0, 0, 1)
	r := func(same bool, ballot int, who ...int) impl.Replica {
		return replica(4, table(5, nil, nil, nil, nil, []impl.Row{emptyRow(5), row(impl.RwPre, ballot, ballot, asked, first)}), preLead(at, ballot, asked, first, first, same, who...))
	}
	ok := func(from, attr string) step { return take("preok " + from + " 4 4 2 0 0 0|-|" + attr) }
	leads := func(lead string) []string {
		return []string{"4.1 none 0 0|-|0:0,0,0,0,0", "4.2 pre 0 0|read 8 2|3:0,0,0,0,1", "4.2 leads " + lead}
	}
	acc := func(ballot, attr string) ([]string, []string) {
		var sent []string
		for _, to := range []string{"0", "1", "2", "3"} {
			sent = append(sent, "acc 4 "+to+" 4 2 "+ballot+" 0 0|read 8 2|"+attr)
		}
		return []string{"4.1 none 0 0|-|0:0,0,0,0,0", "4.2 acc " + ballot + " " + ballot + "|read 8 2|" + attr, "4.2 leads acc " + ballot + "|read 8 2|" + attr + "|" + attr + "|false|[4]|"}, sent
	}
	unlike, unlikeSent := acc("0", "5:0,6,0,0,1")
	alike, alikeSent := acc("0", "3:0,0,0,0,1")
	again, againSent := acc("12", "3:0,0,0,0,1")
	checkSteps(t, []stepCase{
		{"the first", r(true, 0, 4), ok("2", "3:0,0,0,0,1"), leads("pre 0|read 8 2|3:0,0,0,0,1|3:0,0,0,0,1|true|[2 4]|"), nil},
		{"the second", r(true, 0, 2, 4), ok("0", "3:0,0,0,0,1"), leads("pre 0|read 8 2|3:0,0,0,0,1|3:0,0,0,0,1|true|[0 2 4]|"), nil},
		{"the third", r(true, 0, 0, 2, 4), ok("3", "3:0,0,0,0,1"), leads("pre 0|read 8 2|3:0,0,0,0,1|3:0,0,0,0,1|true|[0 2 3 4]|"), nil},
		{"the last", r(true, 0, 0, 2, 3, 4), ok("1", "3:0,0,0,0,1"), []string{"4.1 none 0 0|-|0:0,0,0,0,0", "4.2 com 0 0|read 8 2|3:0,0,0,0,1"},
			[]string{"com 4 0 4 2 0 0 0|read 8 2|3:0,0,0,0,1", "com 4 1 4 2 0 0 0|read 8 2|3:0,0,0,0,1", "com 4 2 4 2 0 0 0|read 8 2|3:0,0,0,0,1", "com 4 3 4 2 0 0 0|read 8 2|3:0,0,0,0,1"}},
		{"unlike, no majority", r(true, 0, 4), ok("1", "5:0,6,0,0,0"), leads("pre 0|read 8 2|3:0,0,0,0,1|5:0,6,0,0,1|false|[1 4]|"), nil},
		{"unlike, a majority", r(true, 0, 2, 4), ok("1", "5:0,6,0,0,0"), unlike, unlikeSent},
		{"unlike ahead, no majority", r(false, 0, 4), ok("3", "3:0,0,0,0,1"), leads("pre 0|read 8 2|3:0,0,0,0,1|3:0,0,0,0,1|false|[3 4]|"), nil},
		{"unlike ahead, a majority", r(false, 0, 3, 4), ok("1", "3:0,0,0,0,1"), alike, alikeSent},
		{"unlike at last", r(true, 0, 0, 2, 3, 4), ok("1", "5:0,6,0,0,0"), unlike, unlikeSent},
		{"Ballot 12, no majority", r(true, 12, 4), take("preok 0 4 4 2 12 0 0|-|3:0,0,0,0,1"),
			[]string{"4.1 none 0 0|-|0:0,0,0,0,0", "4.2 pre 12 12|read 8 2|3:0,0,0,0,1", "4.2 leads pre 12|read 8 2|3:0,0,0,0,1|3:0,0,0,0,1|true|[0 4]|"}, nil},
		{"Ballot 12, unlike, no majority", r(true, 12, 4), take("preok 0 4 4 2 12 0 0|-|4:0,0,0,0,1"),
			[]string{"4.1 none 0 0|-|0:0,0,0,0,0", "4.2 pre 12 12|read 8 2|3:0,0,0,0,1", "4.2 leads pre 12|read 8 2|3:0,0,0,0,1|4:0,0,0,0,1|false|[0 4]|"}, nil},
		{"Ballot 12, a majority", r(true, 12, 0, 4), take("preok 3 4 4 2 12 0 0|-|3:0,0,0,0,1"), again, againSent},
	})
}

func TestTakeAcc(t *testing.T) {
	a := attr(4, 0, 0, 2)
	acc := func(ballot string) step { return take("acc 0 1 0 1 " + ballot + " 0 0|move 7 0 2 30|1:0,0,3") }
	voted := func(ballot string) []string {
		return []string{"0.1 acc " + ballot + " " + ballot + "|move 7 0 2 30|1:0,0,3"}
	}
	ok := func(ballot string) []string { return []string{"accok 1 0 0 1 " + ballot + " 0 0|-|0:0,0,0"} }
	com := []string{"com 1 0 0 1 0 0 0|read 8 2|4:0,0,2"}
	checkSteps(t, []stepCase{
		{"no row", replica(1, table(3)), acc("0"), voted("0"), ok("0")},
		{"an empty row", voter(emptyRow(3)), acc("9999"), voted("9999"), ok("9999")},
		{"none, below", voter(promised(3, 9)), acc("8"), nil, nil},
		{"none, at", voter(promised(3, 9)), acc("9"), voted("9"), ok("9")},
		{"none, above", voter(promised(3, 9)), acc("10"), voted("10"), ok("10")},
		{"pre 9 0, at the Vote", voter(row(impl.RwPre, 9, 0, asked, a)), acc("0"), nil, nil},
		{"pre 9 0, at", voter(row(impl.RwPre, 9, 0, asked, a)), acc("9"), voted("9"), ok("9")},
		{"pre 9 9, above", voter(row(impl.RwPre, 9, 9, asked, a)), acc("10"), voted("10"), ok("10")},
		{"acc 9 8, at the Vote", voter(row(impl.RwAcc, 9, 8, asked, a)), acc("8"), nil, nil},
		{"acc 9 9, at", voter(row(impl.RwAcc, 9, 9, asked, a)), acc("9"), voted("9"), ok("9")},
		{"acc 9 9, above", voter(row(impl.RwAcc, 9, 9, asked, a)), acc("16"), voted("16"), ok("16")},
		{"acc twice", voter(row(impl.RwAcc, 9, 9, moved, attr(1, 0, 0, 3))), acc("9"), nil, ok("9")},
		{"com, below", voter(row(impl.RwCom, 9, 9, asked, a)), acc("8"), nil, com},
		{"com, at", voter(row(impl.RwCom, 9, 9, asked, a)), acc("9"), nil, com},
		{"com, above", voter(row(impl.RwCom, 9, 0, asked, a)), acc("10"), nil, com},
		{"from 2", voter(promised(3, 9)), take("acc 2 1 0 1 10 0 0|-|0:0,0,0"), []string{"0.1 acc 10 10|-|0:0,0,0"}, []string{"accok 1 2 0 1 10 0 0|-|0:0,0,0"}},
		{"no Seq is left", replica(1, table(3, nil, []impl.Row{row(impl.RwPre, 0, 0, asked, attr(999, 0, 0, 0))})), take("acc 0 1 0 1 0 0 0|move 7 0 2 30|999:1,0,3"),
			[]string{"0.1 acc 0 0|move 7 0 2 30|999:1,0,3", "1.1 pre 0 0|read 8 2|999:0,0,0"}, ok("0")},
		{"own lead stays", voter(promised(3, 9), preLead(instance{0, 1}, 9, asked, a, a, true, 1)), acc("10"), append(voted("10"), "0.1 leads pre 9|read 8 2|4:0,0,2|4:0,0,2|true|[1]|"), ok("10")},
	})
}

func TestTakeAccOk(t *testing.T) {
	at, a := instance{0, 1}, attr(2, 0, 2, 0)
	ok := func(from, ballot string) step { return take("accok " + from + " 0 0 1 " + ballot + " 0 0|-|0:0,0,0") }
	com := []string{"com 0 1 0 1 0 0 0|move 7 0 2 30|2:0,2,0", "com 0 2 0 1 0 0 0|move 7 0 2 30|2:0,2,0"}
	acc := row(impl.RwAcc, 9, 9, moved, a)
	lead := accLead(at, 9, moved, a, 0)
	settled := []string{"0.1 com 9 9|move 7 0 2 30|2:0,2,0"}
	checkSteps(t, []stepCase{
		{"a majority", leader(acc, lead), ok("1", "9"), settled, com},
		{"a majority with 2", leader(acc, lead), ok("2", "9"), settled, com},
		{"more than a majority", leader(acc, accLead(at, 9, moved, a, 0, 2)), ok("1", "9"), settled, com},
		{"twice", leader(acc, accLead(at, 9, moved, a, 0, 2)), ok("2", "9"), nil, nil},
		{"the row is above", leader(row(impl.RwAcc, 17, 9, moved, a), lead), ok("1", "9"), []string{"0.1 com 17 9|move 7 0 2 30|2:0,2,0"}, com},
		{"the row is of another", leader(row(impl.RwPre, 17, 17, asked, attr(7, 1, 1, 1)), lead), ok("1", "9"), []string{"0.1 com 17 17|move 7 0 2 30|2:0,2,0"}, com},
		{"no row", replica(0, table(3), lead), ok("1", "9"), []string{"0.1 com 0 0|move 7 0 2 30|2:0,2,0"}, com},
		{"of a lower Ballot", leader(acc, lead), ok("1", "8"), nil, nil},
		{"of a higher Ballot", leader(acc, lead), ok("1", "10"), nil, nil},
		{"to LdPre", leader(acc, preLead(at, 9, moved, a, a, true, 0)), ok("1", "9"), nil, nil},
		{"to LdPrep", leader(acc, prepLead(at, 9, []impl.Row{acc}, 0)), ok("1", "9"), nil, nil},
		{"to no lead", leader(acc), ok("1", "9"), nil, nil},
		{"to a lead of another instance", leader(acc, accLead(instance{1, 1}, 9, moved, a, 0)), ok("1", "9"), nil, nil},
		{"com", leader(row(impl.RwCom, 9, 9, asked, a), lead), ok("1", "9"), nil, nil},
	})
	five := attr(2, 0, 1, 2, 3, 4)
	of := func(who ...int) impl.Replica {
		return replica(2, table(5, nil, []impl.Row{row(impl.RwAcc, 10, 10, other, five)}), accLead(instance{1, 1}, 10, other, five, who...))
	}
	checkSteps(t, []stepCase{
		{"five, no majority", of(2), take("accok 4 2 1 1 10 0 0|-|0:0,0,0,0,0"), []string{"1.1 acc 10 10|read 9 1|2:0,1,2,3,4", "1.1 leads acc 10|read 9 1|2:0,1,2,3,4|2:0,1,2,3,4|false|[2 4]|"}, nil},
		{"five, a majority", of(2, 4), take("accok 0 2 1 1 10 0 0|-|0:0,0,0,0,0"), []string{"1.1 com 10 10|read 9 1|2:0,1,2,3,4"},
			[]string{"com 2 0 1 1 0 0 0|read 9 1|2:0,1,2,3,4", "com 2 1 1 1 0 0 0|read 9 1|2:0,1,2,3,4", "com 2 3 1 1 0 0 0|read 9 1|2:0,1,2,3,4", "com 2 4 1 1 0 0 0|read 9 1|2:0,1,2,3,4"}},
	})
}

func TestTakeCom(t *testing.T) {
	a := attr(4, 0, 0, 2)
	com := take("com 0 1 0 1 0 0 0|move 7 0 2 30|1:0,0,3")
	settled := func(ballots string) []string { return []string{"0.1 com " + ballots + "|move 7 0 2 30|1:0,0,3"} }
	at := instance{0, 1}
	kept := accLead(instance{0, 2}, 9, asked, a, 1)
	checkSteps(t, []stepCase{
		{"no row", replica(1, table(3)), com, settled("0 0"), nil},
		{"none", voter(promised(3, 9)), com, settled("9 0"), nil},
		{"pre", voter(row(impl.RwPre, 9, 8, asked, a)), com, settled("9 8"), nil},
		{"acc", voter(row(impl.RwAcc, 9999, 9999, asked, a)), com, settled("9999 9999"), nil},
		{"com", voter(row(impl.RwCom, 9, 8, asked, a)), com, nil, nil},
		{"com alike", voter(row(impl.RwCom, 9, 8, moved, attr(1, 0, 0, 3))), com, nil, nil},
		{"a lead LdPre", voter(promised(3, 9), preLead(at, 9, asked, a, a, true, 1), kept), com, append(settled("9 0"), "0.2 leads acc 9|read 8 2|4:0,0,2|4:0,0,2|false|[1]|"), nil},
		{"a lead LdAcc", voter(row(impl.RwAcc, 9, 9, asked, a), accLead(at, 9, asked, a, 1)), com, settled("9 9"), nil},
		{"a lead LdPrep", voter(promised(3, 17), prepLead(at, 17, []impl.Row{promised(3, 9)}, 1)), com, settled("17 0"), nil},
		{"com and a lead", voter(row(impl.RwCom, 9, 8, asked, a), accLead(at, 9, asked, a, 1)), com, nil, nil},
		{"of no command", voter(row(impl.RwPre, 9, 8, asked, a)), take("com 2 1 0 1 0 0 0|-|0:0,0,0"), []string{"0.1 com 9 8|-|0:0,0,0"}, nil},
		{"behind the end of a list", replica(0, table(3)), take("com 2 0 2 2 0 0 0|read 8 2|999:6,6,6"), []string{"2.1 none 0 0|-|0:0,0,0", "2.2 com 0 0|read 8 2|999:6,6,6"}, nil},
	})
}

func TestTakePrep(t *testing.T) {
	a := attr(4, 0, 0, 2)
	prep := func(ballot string) step { return take("prep 0 1 0 1 " + ballot + " 0 0|-|0:0,0,0") }
	com := []string{"com 1 0 0 1 0 0 0|read 8 2|4:0,0,2"}
	checkSteps(t, []stepCase{
		{"no row", replica(1, table(3)), prep("8"), []string{"0.1 none 8 0|-|0:0,0,0"}, []string{"prepok 1 0 0 1 8 0 0|-|0:0,0,0"}},
		{"none, below", voter(promised(3, 9)), prep("8"), nil, nil},
		{"none, at", voter(promised(3, 9)), prep("9"), nil, []string{"prepok 1 0 0 1 9 0 0|-|0:0,0,0"}},
		{"none, above", voter(promised(3, 9)), prep("9999"), []string{"0.1 none 9999 0|-|0:0,0,0"}, []string{"prepok 1 0 0 1 9999 0 0|-|0:0,0,0"}},
		{"pre 0, above", voter(row(impl.RwPre, 0, 0, asked, a)), prep("8"), []string{"0.1 pre 8 0|read 8 2|4:0,0,2"}, []string{"prepok 1 0 0 1 8 0 1|read 8 2|4:0,0,2"}},
		{"pre 0, at", voter(row(impl.RwPre, 0, 0, asked, a)), prep("0"), nil, []string{"prepok 1 0 0 1 0 0 1|read 8 2|4:0,0,2"}},
		{"pre 9 8, at the Vote", voter(row(impl.RwPre, 9, 8, asked, a)), prep("8"), nil, nil},
		{"pre 9 8, at", voter(row(impl.RwPre, 9, 8, asked, a)), prep("9"), nil, []string{"prepok 1 0 0 1 9 8 1|read 8 2|4:0,0,2"}},
		{"acc 9 9, above", voter(row(impl.RwAcc, 9, 9, asked, a)), prep("16"), []string{"0.1 acc 16 9|read 8 2|4:0,0,2"}, []string{"prepok 1 0 0 1 16 9 2|read 8 2|4:0,0,2"}},
		{"acc 9 9, at", voter(row(impl.RwAcc, 9, 9, asked, a)), prep("9"), nil, []string{"prepok 1 0 0 1 9 9 2|read 8 2|4:0,0,2"}},
		{"acc 9 9, below", voter(row(impl.RwAcc, 9, 9, asked, a)), prep("8"), nil, nil},
		{"com, below", voter(row(impl.RwCom, 9, 9, asked, a)), prep("8"), nil, com},
		{"com, at", voter(row(impl.RwCom, 9, 9, asked, a)), prep("9"), nil, com},
		{"com, above", voter(row(impl.RwCom, 9, 0, asked, a)), prep("9999"), nil, com},
		{"own lead stays", voter(promised(3, 9), accLead(instance{0, 1}, 9, asked, a, 1)), take("prep 2 1 0 1 10 0 0|-|0:0,0,0"),
			[]string{"0.1 none 10 0|-|0:0,0,0", "0.1 leads acc 9|read 8 2|4:0,0,2|4:0,0,2|false|[1]|"}, []string{"prepok 1 2 0 1 10 0 0|-|0:0,0,0"}},
		{"behind the end of a list", replica(0, table(3)), take("prep 2 0 2 2 10 0 0|-|0:0,0,0"), []string{"2.1 none 0 0|-|0:0,0,0", "2.2 none 10 0|-|0:0,0,0"}, []string{"prepok 0 2 2 2 10 0 0|-|0:0,0,0"}},
	})
}
