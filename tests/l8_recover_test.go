package tests

import (
	"math"
	"slices"
	"strings"
	"testing"

	"loop.example/g00698/impl"
)

func TestTakePrepOkOfThree(t *testing.T) {
	at, a, b := instance{0, 1}, attr(4, 0, 0, 2), attr(2, 0, 3, 0)
	// recoverer is replica 1, which recovers instance 0.1 with Ballot 9.
	recoverer := func(own, seen impl.Row) impl.Replica { return voter(own, prepLead(at, 9, []impl.Row{seen}, 1)) }
	pre0 := func(ballot int) impl.Row { return row(impl.RwPre, ballot, 0, asked, a) }
	none := func(from string) step { return take("prepok " + from + " 1 0 1 9 0 0|-|0:0,0,0") }
	same := take("prepok 0 1 0 1 9 0 1|read 8 2|4:0,0,2")
	attrIn := func(what string) string { return what[strings.LastIndex(what, "|"):] }
	accepted := func(what string) []string {
		return []string{"0.1 acc 9 9|" + what, "0.1 leads acc 9|" + what + attrIn(what) + "|false|[1]|"}
	}
	acc := func(what string) []string { return []string{"acc 1 0 0 1 9 0 0|" + what, "acc 1 2 0 1 9 0 0|" + what} }
	again := func(what string) []string {
		return []string{"0.1 pre 9 9|" + what, "0.1 leads pre 9|" + what + attrIn(what) + "|true|[1]|"}
	}
	pre := func(what string) []string { return []string{"pre 1 0 0 1 9 0 0|" + what, "pre 1 2 0 1 9 0 0|" + what} }
	checkSteps(t, []stepCase{
		{"none", recoverer(promised(3, 9), emptyRow(3)), none("2"), accepted("-|0:0,0,0"), acc("-|0:0,0,0")},
		{"none, from 0", recoverer(promised(3, 9), emptyRow(3)), none("0"), accepted("-|0:0,0,0"), acc("-|0:0,0,0")},
		{"all pre alike", recoverer(pre0(9), pre0(0)), same, accepted("read 8 2|4:0,0,2"), acc("read 8 2|4:0,0,2")},
		{"acc seen", recoverer(row(impl.RwAcc, 9, 8, moved, b), row(impl.RwAcc, 8, 8, moved, b)), same, accepted("move 7 0 2 30|2:0,3,0"), acc("move 7 0 2 30|2:0,3,0")},
		{"acc told", recoverer(pre0(9), pre0(0)), take("prepok 2 1 0 1 9 8 2|move 7 0 2 30|2:0,3,0"), accepted("move 7 0 2 30|2:0,3,0"), acc("move 7 0 2 30|2:0,3,0")},
		{"acc told with Vote 0", recoverer(pre0(9), pre0(0)), take("prepok 0 1 0 1 9 0 2|-|0:0,0,1"), accepted("-|0:0,0,1"), acc("-|0:0,0,1")},
		{"pre and none", recoverer(pre0(9), pre0(0)), none("2"), again("read 8 2|4:0,0,2"), pre("read 8 2|4:0,0,2")},
		{"none and pre", recoverer(promised(3, 9), emptyRow(3)), same, again("read 8 2|4:0,0,2"), pre("read 8 2|4:0,0,2")},
		{"pre of unlike Attr", recoverer(pre0(9), pre0(0)), take("prepok 0 1 0 1 9 0 1|read 8 2|5:1,0,0"), again("read 8 2|5:1,0,2"), pre("read 8 2|5:1,0,2")},
		{"pre of unlike Cmd", recoverer(pre0(9), pre0(0)), take("prepok 0 1 0 1 9 0 1|read 9 1|4:0,0,2"), again("read 8 2|4:0,0,2"), pre("read 8 2|4:0,0,2")},
		{"pre with a later Vote", recoverer(pre0(9), pre0(0)), take("prepok 0 1 0 1 9 8 1|read 9 1|2:1,0,0"), again("read 9 1|4:1,0,2"), pre("read 9 1|4:1,0,2")},
		{"pre of a Vote alike", recoverer(row(impl.RwPre, 9, 8, asked, a), row(impl.RwPre, 8, 8, asked, a)), take("prepok 0 1 0 1 9 8 1|read 8 2|4:0,0,2"), again("read 8 2|4:0,0,2"), pre("read 8 2|4:0,0,2")},
		{"pre of nothing", recoverer(promised(3, 9), emptyRow(3)), take("prepok 0 1 0 1 9 0 1|-|0:0,0,0"), again("-|1:0,0,0"), pre("-|1:0,0,0")},
		{"the row is not what was seen", recoverer(row(impl.RwAcc, 9, 9, moved, b), pre0(0)), same, accepted("read 8 2|4:0,0,2"), acc("read 8 2|4:0,0,2")},
		{"the row is below", recoverer(emptyRow(3), emptyRow(3)), none("2"), accepted("-|0:0,0,0"), acc("-|0:0,0,0")},
		{"accept, but the row is above", recoverer(row(impl.RwPre, 10, 0, asked, a), pre0(0)), same, []string{"0.1 pre 10 0|read 8 2|4:0,0,2"}, nil},
		{"none, but the row is above", recoverer(promised(3, 16), emptyRow(3)), none("2"), []string{"0.1 none 16 0|-|0:0,0,0"}, nil},
		{"again, but the row is above", recoverer(promised(3, 10), emptyRow(3)), same, []string{"0.1 none 10 0|-|0:0,0,0"}, nil},
		{"twice", voter(pre0(9), prepLead(at, 9, []impl.Row{pre0(0), pre0(9)}, 0, 1)), same, nil, nil},
		{"late, of those who are more than a majority", voter(pre0(9), prepLead(at, 9, []impl.Row{pre0(0), pre0(9)}, 0, 1)), none("2"), again("read 8 2|4:0,0,2"), pre("read 8 2|4:0,0,2")},
		{"of a lower Ballot", recoverer(pre0(9), pre0(0)), take("prepok 0 1 0 1 8 0 0|-|0:0,0,0"), nil, nil},
		{"of a higher Ballot", recoverer(pre0(9), pre0(0)), take("prepok 0 1 0 1 17 0 0|-|0:0,0,0"), nil, nil},
		{"to LdPre", voter(row(impl.RwPre, 9, 9, asked, a), preLead(at, 9, asked, a, a, true, 1)), none("0"), nil, nil},
		{"to LdAcc", voter(row(impl.RwAcc, 9, 9, asked, a), accLead(at, 9, asked, a, 1)), none("0"), nil, nil},
		{"to no lead", voter(pre0(9)), none("0"), nil, nil},
		{"com", voter(row(impl.RwCom, 9, 0, asked, a), prepLead(at, 9, []impl.Row{emptyRow(3)}, 1)), none("0"), nil, nil},
	})
}

func TestTakePrepOkLooksForWhatInterferes(t *testing.T) {
	at, lead := instance{2, 2}, prepLead(instance{2, 2}, 9, []impl.Row{emptyRow(3)}, 1)
	r := func(seq, ballot int) impl.Replica {
		x := table(3, nil, []impl.Row{row(impl.RwAcc, 0, 0, moved, attr(seq, 0, 0, 0))})
		return replica(1, withRow(x, at, promised(3, ballot)), accLead(instance{0, 3}, 9, other, attr(1, 0, 0, 0), 1), lead)
	}
	ok := take("prepok 0 1 2 2 9 0 1|read 8 2|3:2,0,0")
	others := func(seq string) []string {
		return []string{"1.1 acc 0 0|move 7 0 2 30|" + seq + ":0,0,0", "2.1 none 0 0|-|0:0,0,0"}
	}
	const kept = "0.3 leads acc 9|read 9 1|1:0,0,0|1:0,0,0|false|[1]|"
	checkSteps(t, []stepCase{
		{"behind it", r(5, 9), ok, append(others("5"), "2.2 pre 9 9|read 8 2|6:2,1,0", kept, "2.2 leads pre 9|read 8 2|6:2,1,0|6:2,1,0|true|[1]|"),
			[]string{"pre 1 0 2 2 9 0 0|read 8 2|6:2,1,0", "pre 1 2 2 2 9 0 0|read 8 2|6:2,1,0"}},
		{"Seq 999", r(998, 9), ok, append(others("998"), "2.2 pre 9 9|read 8 2|999:2,1,0", kept, "2.2 leads pre 9|read 8 2|999:2,1,0|999:2,1,0|true|[1]|"),
			[]string{"pre 1 0 2 2 9 0 0|read 8 2|999:2,1,0", "pre 1 2 2 2 9 0 0|read 8 2|999:2,1,0"}},
		{"no Seq is left", r(999, 9), ok, noAnswer, nil},
		{"no Seq is left, but it is dropped", r(999, 10), ok, append(others("999"), "2.2 none 10 0|-|0:0,0,0", kept), nil},
		{"no Seq is left, but it is accepted", r(999, 9), take("prepok 0 1 2 2 9 0 2|read 8 2|3:2,0,0"),
			append(others("999"), "2.2 acc 9 9|read 8 2|3:2,0,0", kept, "2.2 leads acc 9|read 8 2|3:2,0,0|3:2,0,0|false|[1]|"),
			[]string{"acc 1 0 2 2 9 0 0|read 8 2|3:2,0,0", "acc 1 2 2 2 9 0 0|read 8 2|3:2,0,0"}},
	})
}

func TestTakePrepOkOfFive(t *testing.T) {
	at, a := instance{3, 1}, attr(4, 0, 0, 0, 0, 2)
	first := row(impl.RwPre, 10, 8, asked, a)
	r := func(seen []impl.Row, who ...int) impl.Replica {
		return replica(2, table(5, nil, nil, nil, []impl.Row{promised(5, 10)}), prepLead(at, 10, seen, who...))
	}
	const own = "3.1 none 10 0|-|0:0,0,0,0,0"
	const lead = "3.1 leads prep 10|-|0:0,0,0,0,0|0:0,0,0,0,0|false|"
	checkSteps(t, []stepCase{
		{"the first", r([]impl.Row{emptyRow(5)}, 2), take("prepok 4 2 3 1 10 9 2|read 9 1|7:0,0,0,3,0"),
			[]string{own, lead + "[2 4]|none 0 0|-|0:0,0,0,0,0;acc 10 9|read 9 1|7:0,0,0,3,0"}, nil},
		{"Who by number, Seen as they came", r([]impl.Row{first}, 2), take("prepok 0 2 3 1 10 0 0|-|0:0,0,0,0,0"),
			[]string{own, lead + "[0 2]|pre 10 8|read 8 2|4:0,0,0,0,2;none 10 0|-|0:0,0,0,0,0"}, nil},
		{"a majority", r([]impl.Row{emptyRow(5), first}, 2, 4), take("prepok 0 2 3 1 10 8 1|read 9 1|7:0,0,0,3,0"),
			[]string{"3.1 pre 10 10|read 8 2|7:0,0,0,3,2", "3.1 leads pre 10|read 8 2|7:0,0,0,3,2|7:0,0,0,3,2|true|[2]|"},
			[]string{"pre 2 0 3 1 10 0 0|read 8 2|7:0,0,0,3,2", "pre 2 1 3 1 10 0 0|read 8 2|7:0,0,0,3,2", "pre 2 3 3 1 10 0 0|read 8 2|7:0,0,0,3,2", "pre 2 4 3 1 10 0 0|read 8 2|7:0,0,0,3,2"}},
		{"all of them", r([]impl.Row{emptyRow(5), emptyRow(5), promised(5, 10), emptyRow(5)}, 0, 1, 2, 4), take("prepok 3 2 3 1 10 0 0|-|0:0,0,0,0,0"),
			[]string{"3.1 acc 10 10|-|0:0,0,0,0,0", "3.1 leads acc 10|-|0:0,0,0,0,0|0:0,0,0,0,0|false|[2]|"},
			[]string{"acc 2 0 3 1 10 0 0|-|0:0,0,0,0,0", "acc 2 1 3 1 10 0 0|-|0:0,0,0,0,0", "acc 2 3 3 1 10 0 0|-|0:0,0,0,0,0", "acc 2 4 3 1 10 0 0|-|0:0,0,0,0,0"}},
		{"no majority, the row is above", replica(2, table(5, nil, nil, nil, []impl.Row{promised(5, 11)}), prepLead(at, 10, []impl.Row{emptyRow(5)}, 2)), take("prepok 4 2 3 1 10 0 0|-|0:0,0,0,0,0"),
			[]string{"3.1 none 11 0|-|0:0,0,0,0,0", lead + "[2 4]|none 0 0|-|0:0,0,0,0,0;none 10 0|-|0:0,0,0,0,0"}, nil},
	})
}

func TestRecoverAt(t *testing.T) {
	at, a := instance{0, 1}, attr(4, 0, 0, 2)
	prep := func(ballot string) []string {
		return []string{"prep 1 0 0 1 " + ballot + " 0 0|-|0:0,0,0", "prep 1 2 0 1 " + ballot + " 0 0|-|0:0,0,0"}
	}
	state := func(now, ballot, seen string) []string {
		return []string{"0.1 " + now, "0.1 leads prep " + ballot + "|-|0:0,0,0|0:0,0,0|false|[1]|" + seen}
	}
	pre, acc := row(impl.RwPre, 9, 8, asked, a), row(impl.RwAcc, 16, 16, moved, a)
	empty, far := state("none 9 0|-|0:0,0,0", "9", "none 0 0|-|0:0,0,0"), accLead(instance{2, 6}, 9, asked, a, 1)
	const farState = "2.6 leads acc 9|read 8 2|4:0,0,2|4:0,0,2|false|[1]|"
	checkSteps(t, []stepCase{
		{"no row", replica(1, table(3)), recoverAt(0, 1), empty, prep("9")},
		{"an empty row", voter(emptyRow(3)), recoverAt(0, 1), empty, prep("9")},
		{"only promised", voter(promised(3, 9)), recoverAt(0, 1), state("none 17 0|-|0:0,0,0", "17", "none 9 0|-|0:0,0,0"), prep("17")},
		{"pre", voter(pre), recoverAt(0, 1), state("pre 17 8|read 8 2|4:0,0,2", "17", "pre 9 8|read 8 2|4:0,0,2"), prep("17")},
		{"acc", voter(acc), recoverAt(0, 1), state("acc 17 16|move 7 0 2 30|4:0,0,2", "17", "acc 16 16|move 7 0 2 30|4:0,0,2"), prep("17")},
		{"com", voter(row(impl.RwCom, 9, 8, asked, a)), recoverAt(0, 1), noAnswer, nil},
		{"com and a lead", voter(row(impl.RwCom, 9, 8, asked, a), accLead(at, 9, asked, a, 1)), recoverAt(0, 1), noAnswer, nil},
		{"a lead LdPre", voter(pre, preLead(at, 8, asked, a, a, true, 1, 2)), recoverAt(0, 1), state("pre 17 8|read 8 2|4:0,0,2", "17", "pre 9 8|read 8 2|4:0,0,2"), prep("17")},
		{"a lead LdAcc", voter(acc, accLead(at, 16, moved, a, 0, 1)), recoverAt(0, 1), state("acc 17 16|move 7 0 2 30|4:0,0,2", "17", "acc 16 16|move 7 0 2 30|4:0,0,2"), prep("17")},
		{"a lead LdPrep", voter(promised(3, 9), prepLead(at, 9, []impl.Row{pre, acc}, 0, 1)), recoverAt(0, 1), state("none 17 0|-|0:0,0,0", "17", "none 9 0|-|0:0,0,0"), prep("17")},
		{"a lead with a greater Ballot", voter(promised(3, 9), accLead(at, 9999, asked, a, 1)), recoverAt(0, 1), state("none 17 0|-|0:0,0,0", "17", "none 9 0|-|0:0,0,0"), prep("17")},
		{"a lead behind it", replica(1, table(3), far), recoverAt(0, 1), append(empty, farState), prep("9")},
		{"a lead ahead of it", replica(1, table(3), accLead(at, 9, asked, a, 1), far), recoverAt(1, 2),
			[]string{"1.1 none 0 0|-|0:0,0,0", "1.2 none 9 0|-|0:0,0,0", "0.1 leads acc 9|read 8 2|4:0,0,2|4:0,0,2|false|[1]|", "1.2 leads prep 9|-|0:0,0,0|0:0,0,0|false|[1]|none 0 0|-|0:0,0,0", farState},
			[]string{"prep 1 0 1 2 9 0 0|-|0:0,0,0", "prep 1 2 1 2 9 0 0|-|0:0,0,0"}},
		{"the last Ballot", voter(promised(3, 9992)), recoverAt(0, 1), state("none 9993 0|-|0:0,0,0", "9993", "none 9992 0|-|0:0,0,0"), prep("9993")},
		{"no Ballot is left", voter(promised(3, 9993)), recoverAt(0, 1), noAnswer, nil},
		{"at MaxBallot", voter(promised(3, 9999)), recoverAt(0, 1), noAnswer, nil},
		{"no Ballot is left, but a lead is", voter(promised(3, 9998), accLead(at, 0, asked, a, 1)), recoverAt(0, 1), noAnswer, nil},
	})
	five := replica(3, table(5))
	checkSteps(t, []stepCase{{"five", five, recoverAt(4, 1), []string{"4.1 none 11 0|-|0:0,0,0,0,0", "4.1 leads prep 11|-|0:0,0,0,0,0|0:0,0,0,0,0|false|[3]|none 0 0|-|0:0,0,0,0,0"},
		[]string{"prep 3 0 4 1 11 0 0|-|0:0,0,0,0,0", "prep 3 1 4 1 11 0 0|-|0:0,0,0,0,0", "prep 3 2 4 1 11 0 0|-|0:0,0,0,0,0", "prep 3 4 4 1 11 0 0|-|0:0,0,0,0,0"}}})
	for _, n := range groups {
		for _, bad := range badInstances(n) {
			for _, r := range []impl.Replica{replica(0, table(n)), fullReplica(n)} {
				checkSteps(t, []stepCase{{"no instance", r, recoverAt(bad[0], bad[1]), noAnswer, nil}, {"no instance", r, hurry(bad[0], bad[1]), noAnswer, nil}})
			}
		}
	}
}

func TestHurryAt(t *testing.T) {
	at, first, a := instance{0, 1}, attr(1, 0, 0, 0), attr(2, 0, 2, 0)
	own := row(impl.RwPre, 0, 0, moved, first)
	r := func(own impl.Row, ballot int, same bool, who ...int) impl.Replica {
		return leader(own, preLead(at, ballot, moved, first, a, same, who...))
	}
	state := []string{"0.1 acc 0 0|move 7 0 2 30|2:0,2,0", "0.1 leads acc 0|move 7 0 2 30|2:0,2,0|2:0,2,0|false|[0]|"}
	acc := []string{"acc 0 1 0 1 0 0 0|move 7 0 2 30|2:0,2,0", "acc 0 2 0 1 0 0 0|move 7 0 2 30|2:0,2,0"}
	checkSteps(t, []stepCase{
		{"a majority", r(own, 0, true, 0, 1), hurry(0, 1), state, acc},
		{"a majority with 2", r(own, 0, true, 0, 2), hurry(0, 1), state, acc},
		{"all", r(own, 0, true, 0, 1, 2), hurry(0, 1), state, acc},
		{"not alike", r(own, 0, false, 0, 1), hurry(0, 1), state, acc},
		{"no majority", r(own, 0, true, 0), hurry(0, 1), noAnswer, nil},
		{"Ballot 8", r(row(impl.RwPre, 8, 8, moved, first), 8, true, 0, 1), hurry(0, 1), noAnswer, nil},
		{"Ballot 1", r(own, 1, true, 0, 1), hurry(0, 1), noAnswer, nil},
		{"no row", replica(0, table(3), preLead(at, 0, moved, first, a, true, 0, 1)), hurry(0, 1), state, acc},
		{"the row is above", r(row(impl.RwPre, 9, 0, moved, first), 0, true, 0, 1), hurry(0, 1), []string{"0.1 pre 9 0|move 7 0 2 30|1:0,0,0"}, nil},
		{"com", r(row(impl.RwCom, 0, 0, moved, first), 0, true, 0, 1), hurry(0, 1), noAnswer, nil},
		{"LdAcc", leader(own, accLead(at, 0, moved, a, 0, 1)), hurry(0, 1), noAnswer, nil},
		{"LdPrep", leader(own, prepLead(at, 0, []impl.Row{own, own}, 0, 1)), hurry(0, 1), noAnswer, nil},
		{"no lead", leader(own), hurry(0, 1), noAnswer, nil},
		{"a lead of another instance", r(own, 0, true, 0, 1), hurry(0, 2), noAnswer, nil},
		{"a lead of another replica's instance", r(own, 0, true, 0, 1), hurry(1, 1), noAnswer, nil},
	})
	five := row(impl.RwPre, 0, 0, asked, attr(3, 0, 0, 0, 0, 1))
	of := func(who ...int) impl.Replica {
		return replica(4, table(5, nil, []impl.Row{five}), preLead(instance{1, 1}, 0, asked, five.Attr, five.Attr, true, who...))
	}
	checkSteps(t, []stepCase{
		{"five, no majority", of(2, 4), hurry(1, 1), noAnswer, nil},
		{"five, a majority", of(1, 2, 4), hurry(1, 1), []string{"1.1 acc 0 0|read 8 2|3:0,0,0,0,1", "1.1 leads acc 0|read 8 2|3:0,0,0,0,1|3:0,0,0,0,1|false|[4]|"},
			[]string{"acc 4 0 1 1 0 0 0|read 8 2|3:0,0,0,0,1", "acc 4 1 1 1 0 0 0|read 8 2|3:0,0,0,0,1", "acc 4 2 1 1 0 0 0|read 8 2|3:0,0,0,0,1", "acc 4 3 1 1 0 0 0|read 8 2|3:0,0,0,0,1"}},
	})
}

func TestSubmitTo(t *testing.T) {
	behind := table(3, []impl.Row{row(impl.RwCom, 9, 9, asked, attr(4, 0, 0, 2))}, []impl.Row{promised(3, 9)}, []impl.Row{emptyRow(3), row(impl.RwPre, 0, 0, read(5, 0), attr(6, 0, 0, 0))})
	const others0, others1, others2, others3 = "0.1 com 9 9|read 8 2|4:0,0,2", "1.1 none 9 0|-|0:0,0,0", "2.1 none 0 0|-|0:0,0,0", "2.2 pre 0 0|read 5 0|6:0,0,0"
	stale := accLead(instance{1, 1}, 9, asked, attr(4, 0, 0, 2), 1, 2)
	full := replica(2, fullTable(3, emptyRow(3)))
	full.Table.Rows[2] = full.Table.Rows[2][:5]
	last := replica(0, table(3, nil, []impl.Row{row(impl.RwPre, 0, 0, asked, attr(998, 0, 0, 0))}))
	none := replica(0, table(3, nil, []impl.Row{row(impl.RwPre, 0, 0, asked, attr(999, 0, 0, 0))}))
	cases := []stepCase{
		{"the first", replica(0, table(3)), submit(moved), []string{"0.1 pre 0 0|move 7 0 2 30|1:0,0,0", "0.1 leads pre 0|move 7 0 2 30|1:0,0,0|1:0,0,0|true|[0]|"},
			[]string{"pre 0 1 0 1 0 0 0|move 7 0 2 30|1:0,0,0", "pre 0 2 0 1 0 0 0|move 7 0 2 30|1:0,0,0"}},
		{"behind others", replica(1, behind), submit(moved), []string{others0, others1, "1.2 pre 0 0|move 7 0 2 30|7:1,0,2", others2, others3, "1.2 leads pre 0|move 7 0 2 30|7:1,0,2|7:1,0,2|true|[1]|"},
			[]string{"pre 1 0 1 2 0 0 0|move 7 0 2 30|7:1,0,2", "pre 1 2 1 2 0 0 0|move 7 0 2 30|7:1,0,2"}},
		{"leads of others stay", replica(1, behind, stale), submit(other),
			[]string{others0, others1, "1.2 pre 0 0|read 9 1|1:0,0,0", others2, others3, "1.1 leads acc 9|read 8 2|4:0,0,2|4:0,0,2|false|[1 2]|", "1.2 leads pre 0|read 9 1|1:0,0,0|1:0,0,0|true|[1]|"},
			[]string{"pre 1 0 1 2 0 0 0|read 9 1|1:0,0,0", "pre 1 2 1 2 0 0 0|read 9 1|1:0,0,0"}},
		{"in place of a lead of it", replica(1, table(3), stale), submit(other), []string{"1.1 pre 0 0|read 9 1|1:0,0,0", "1.1 leads pre 0|read 9 1|1:0,0,0|1:0,0,0|true|[1]|"},
			[]string{"pre 1 0 1 1 0 0 0|read 9 1|1:0,0,0", "pre 1 2 1 1 0 0 0|read 9 1|1:0,0,0"}},
		{"the last row", full, submit(other), slices.Concat(stateOf(full), []string{"2.6 pre 0 0|read 9 1|1:0,0,0", "2.6 leads pre 0|read 9 1|1:0,0,0|1:0,0,0|true|[2]|"}),
			[]string{"pre 2 0 2 6 0 0 0|read 9 1|1:0,0,0", "pre 2 1 2 6 0 0 0|read 9 1|1:0,0,0"}},
		{"no row is left", replica(2, fullTable(3, emptyRow(3))), submit(other), noAnswer, nil},
		{"rows of others are full", replica(1, table(3, fullTable(3, emptyRow(3)).Rows[0])), submit(other),
			slices.Concat(stateOf(replica(1, table(3, fullTable(3, emptyRow(3)).Rows[0]))), []string{"1.1 pre 0 0|read 9 1|1:0,0,0", "1.1 leads pre 0|read 9 1|1:0,0,0|1:0,0,0|true|[1]|"}),
			[]string{"pre 1 0 1 1 0 0 0|read 9 1|1:0,0,0", "pre 1 2 1 1 0 0 0|read 9 1|1:0,0,0"}},
		{"Seq 999", last, submit(moved), []string{"0.1 pre 0 0|move 7 0 2 30|999:0,1,0", "1.1 pre 0 0|read 8 2|998:0,0,0", "0.1 leads pre 0|move 7 0 2 30|999:0,1,0|999:0,1,0|true|[0]|"},
			[]string{"pre 0 1 0 1 0 0 0|move 7 0 2 30|999:0,1,0", "pre 0 2 0 1 0 0 0|move 7 0 2 30|999:0,1,0"}},
		{"no Seq is left", none, submit(moved), noAnswer, nil},
		{"no Seq is left, but it touches another account", none, submit(other), []string{"0.1 pre 0 0|read 9 1|1:0,0,0", "1.1 pre 0 0|read 8 2|999:0,0,0", "0.1 leads pre 0|read 9 1|1:0,0,0|1:0,0,0|true|[0]|"},
			[]string{"pre 0 1 0 1 0 0 0|read 9 1|1:0,0,0", "pre 0 2 0 1 0 0 0|read 9 1|1:0,0,0"}},
		{"five", replica(2, table(5)), submit(other), []string{"2.1 pre 0 0|read 9 1|1:0,0,0,0,0", "2.1 leads pre 0|read 9 1|1:0,0,0,0,0|1:0,0,0,0,0|true|[2]|"},
			[]string{"pre 2 0 2 1 0 0 0|read 9 1|1:0,0,0,0,0", "pre 2 1 2 1 0 0 0|read 9 1|1:0,0,0,0,0", "pre 2 3 2 1 0 0 0|read 9 1|1:0,0,0,0,0", "pre 2 4 2 1 0 0 0|read 9 1|1:0,0,0,0,0"}},
	}
	for _, bad := range append(badCmds(), impl.Cmd{}) {
		cases = append(cases, stepCase{"no command", replica(0, table(3)), submit(bad), noAnswer, nil}, stepCase{"no command", fullReplica(5), submit(bad), noAnswer, nil})
	}
	checkSteps(t, cases)
}

func checkChoose(t *testing.T, n int, seen []impl.Row, way int, c impl.Cmd, a impl.Attr) {
	t.Helper()
	gotWay, gotCmd, gotAttr, ok := impl.ChooseOf(n, seen)
	if gotWay != way || gotCmd != c || !plainSame(gotAttr, a) || !ok {
		t.Error("ChooseOf", n, seen, gotWay, gotCmd, gotAttr, ok, "not", way, c, a)
	}
}

func checkNoChoice(t *testing.T, n int, seen []impl.Row) {
	t.Helper()
	if way, c, a, ok := impl.ChooseOf(n, seen); way != 0 || c != (impl.Cmd{}) || !isZeroAttr(a) || ok {
		t.Error("ChooseOf", n, seen, way, c, a, ok)
	}
}

func TestChooseOf(t *testing.T) {
	none, a, b, both := attr(0, 0, 0, 0), attr(4, 0, 0, 2), attr(2, 0, 3, 1), attr(4, 0, 3, 2)
	empty, far := emptyRow(3), promised(3, 9999)
	pre := func(vote int, c impl.Cmd, a impl.Attr) impl.Row { return row(impl.RwPre, 17, vote, c, a) }
	acc := func(vote int, c impl.Cmd, a impl.Attr) impl.Row { return row(impl.RwAcc, 17, vote, c, a) }
	cases := []struct {
		way  int
		c    impl.Cmd
		a    impl.Attr
		seen []impl.Row
	}{
		{impl.WyNone, impl.Cmd{}, none, []impl.Row{empty, empty}},
		{impl.WyNone, impl.Cmd{}, none, []impl.Row{empty, far, empty}},
		{impl.WyAccept, moved, a, []impl.Row{empty, acc(0, moved, a)}},
		{impl.WyAccept, moved, a, []impl.Row{acc(0, moved, a), empty}},
		{impl.WyAccept, moved, a, []impl.Row{pre(17, asked, b), acc(8, moved, a)}},
		{impl.WyAccept, moved, a, []impl.Row{pre(0, asked, b), pre(0, asked, b), acc(0, moved, a)}},
		{impl.WyAccept, asked, b, []impl.Row{acc(8, moved, a), acc(9, asked, b)}},
		{impl.WyAccept, moved, a, []impl.Row{acc(9, moved, a), acc(8, asked, b)}},
		{impl.WyAccept, moved, a, []impl.Row{acc(9, moved, a), acc(9, asked, b)}},
		{impl.WyAccept, asked, b, []impl.Row{acc(9, asked, b), acc(9, moved, a)}},
		{impl.WyAccept, other, a, []impl.Row{acc(8, moved, a), acc(9, other, a), acc(9, asked, b)}},
		{impl.WyAccept, asked, b, []impl.Row{acc(8, moved, a), acc(9, other, a), acc(10, asked, b)}},
		{impl.WyAccept, impl.Cmd{}, none, []impl.Row{acc(9, impl.Cmd{}, none), acc(8, asked, b)}},
		{impl.WyAccept, moved, a, []impl.Row{pre(0, moved, a), pre(0, moved, a)}},
		{impl.WyAccept, moved, a, []impl.Row{pre(0, moved, a), row(impl.RwPre, 0, 0, moved, a), row(impl.RwPre, 9999, 0, moved, a)}},
		{impl.WyAccept, impl.Cmd{}, none, []impl.Row{pre(0, impl.Cmd{}, none), pre(0, impl.Cmd{}, none)}},
		{impl.WyAgain, moved, both, []impl.Row{pre(0, moved, a), pre(0, moved, b)}},
		{impl.WyAgain, moved, a, []impl.Row{pre(0, moved, a), pre(0, moved, attr(3, 0, 0, 2))}},
		{impl.WyAgain, moved, a, []impl.Row{pre(0, moved, a), pre(0, asked, a)}},
		{impl.WyAgain, asked, a, []impl.Row{pre(0, asked, a), pre(0, asked, a), pre(0, moved, a)}},
		{impl.WyAgain, moved, a, []impl.Row{pre(8, moved, a), pre(8, moved, a)}},
		{impl.WyAgain, moved, a, []impl.Row{pre(0, moved, a), pre(1, moved, a)}},
		{impl.WyAgain, moved, a, []impl.Row{pre(1, moved, a), pre(0, moved, a)}},
		{impl.WyAgain, moved, a, []impl.Row{pre(0, moved, a), empty}},
		{impl.WyAgain, moved, a, []impl.Row{far, pre(0, moved, a), pre(0, moved, a)}},
		{impl.WyAgain, moved, a, []impl.Row{pre(0, moved, a), pre(0, moved, a), empty}},
		{impl.WyAgain, asked, both, []impl.Row{pre(8, moved, a), pre(9, asked, b)}},
		{impl.WyAgain, moved, both, []impl.Row{pre(9, moved, a), pre(8, asked, b)}},
		{impl.WyAgain, moved, both, []impl.Row{pre(9, moved, a), pre(9, asked, b)}},
		{impl.WyAgain, other, both, []impl.Row{pre(8, moved, a), pre(9, other, none), pre(9, asked, b)}},
		{impl.WyAgain, impl.Cmd{}, a, []impl.Row{pre(9, impl.Cmd{}, none), pre(8, moved, a)}},
		{impl.WyAgain, moved, a, []impl.Row{empty, pre(9, moved, a), empty}},
	}
	for _, c := range cases {
		checkChoose(t, 3, c.seen, c.way, c.c, c.a)
	}
}

func TestChooseOfFive(t *testing.T) {
	a, b := attr(4, 0, 0, 2, 0, 5), attr(2, 6, 3, 1, 0, 0)
	first, empty := row(impl.RwPre, 9, 0, moved, a), emptyRow(5)
	unlike := cloneRow(first)
	unlike.Attr.Deps[4] = 6
	for count := 3; count <= 5; count++ {
		seen := slices.Repeat([]impl.Row{first}, count)
		checkChoose(t, 5, seen, impl.WyAccept, moved, a)
		checkChoose(t, 5, slices.Repeat([]impl.Row{empty}, count), impl.WyNone, impl.Cmd{}, empty.Attr)
		for at := range count {
			seen[at] = empty
			checkChoose(t, 5, seen, impl.WyAgain, moved, a)
			seen[at] = row(impl.RwPre, 9, 9, asked, b)
			checkChoose(t, 5, seen, impl.WyAgain, asked, attr(4, 6, 3, 2, 0, 5))
			seen[at] = unlike
			checkChoose(t, 5, seen, impl.WyAgain, moved, unlike.Attr)
			seen[at] = row(impl.RwAcc, 9, 0, asked, b)
			checkChoose(t, 5, seen, impl.WyAccept, asked, b)
			seen[at] = first
		}
	}
}

func TestChooseOfMixed(t *testing.T) {
	ways := map[int]int{}
	for _, n := range groups {
		m := mixer(n)
		for range 20000 {
			var seen []impl.Row
			for range n/2 + 1 + m.next(n-n/2) {
				r := m.row(n, math.MaxInt)
				if m.next(3) > 0 && len(seen) > 0 {
					r = cloneRow(seen[m.next(len(seen))])
					r.Ballot = 9999
				}
				seen = append(seen, r)
			}
			if plainSeen(n, seen) {
				way, c, a := plainChoose(n, seen)
				checkChoose(t, n, seen, way, c, a)
				ways[way]++
			}
		}
	}
	if ways[impl.WyAccept] < 1000 || ways[impl.WyAgain] < 1000 || ways[impl.WyNone] < 500 {
		t.Error("ways chosen:", ways)
	}
}

func TestChooseOfInvalid(t *testing.T) {
	for _, n := range groups {
		good := []impl.Row{emptyRow(n), row(impl.RwPre, 9, 8, moved, emptyRow(n).Attr), row(impl.RwAcc, 9, 8, asked, emptyRow(n).Attr)}
		checkNoChoice(t, n, nil)
		checkNoChoice(t, n, []impl.Row{})
		for _, r := range good {
			for _, count := range []int{1, n / 2, n + 1, n + 2, 1000} {
				checkNoChoice(t, n, slices.Repeat([]impl.Row{r}, count))
			}
			for _, other := range append(noGroups, 8-n) {
				for count := range 8 {
					checkNoChoice(t, other, slices.Repeat([]impl.Row{r}, count))
				}
			}
		}
		bad := append(badRows(n), row(impl.RwCom, 9, 8, moved, emptyRow(n).Attr), row(impl.RwCom, 0, 0, impl.Cmd{}, emptyRow(n).Attr), emptyRow(8-n), impl.Row{})
		for i, r := range bad {
			for count := n/2 + 1; count <= n; count++ {
				for at := range count {
					seen := slices.Repeat(good[i%3:i%3+1], count)
					seen[at] = r
					checkNoChoice(t, n, seen)
				}
			}
		}
	}
}
