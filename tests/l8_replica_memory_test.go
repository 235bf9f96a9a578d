package tests

import (
	"math"
	"slices"
	"testing"

	"loop.example/g00698/impl"
)

// replicaArgs is what the functions of chapter 8 are given.
type replicaArgs struct {
	n    int
	r    impl.Replica
	c    impl.Cmd
	m    impl.Msg
	at   instance
	seen []impl.Row
}

// replicaAnswers is what all of them answer of it: replicas and sent are of
// submitting, taking, recovering, hurrying, crashing and of a new one.
type replicaAnswers struct {
	isGood   bool
	way      int
	cmd      impl.Cmd
	attr     impl.Attr
	replicas [6]impl.Replica
	sent     [4][]impl.Msg
	isDone   [7]bool
}

func (a replicaArgs) answers() replicaAnswers {
	var got replicaAnswers
	got.isGood = impl.GoodReplica(a.r)
	got.replicas[0], got.sent[0], got.isDone[0] = impl.SubmitTo(a.r, a.c)
	got.replicas[1], got.sent[1], got.isDone[1] = impl.TakeMsg(a.r, a.m)
	got.replicas[2], got.sent[2], got.isDone[2] = impl.RecoverAt(a.r, a.at[0], a.at[1])
	got.replicas[3], got.sent[3], got.isDone[3] = impl.HurryAt(a.r, a.at[0], a.at[1])
	got.replicas[4], got.isDone[4] = impl.CrashOf(a.r)
	got.replicas[5], got.isDone[5] = impl.NewReplica(a.n, a.at[0])
	got.way, got.cmd, got.attr, got.isDone[6] = impl.ChooseOf(a.n, a.seen)
	return got
}

// plainAnswers is the same as the plain functions tell it.
func (a replicaArgs) plainAnswers() replicaAnswers {
	var want replicaAnswers
	want.isGood = plainGoodReplica(a.r)
	want.replicas[0], want.sent[0], want.isDone[0] = plainSubmit(a.r, a.c)
	want.replicas[1], want.sent[1], want.isDone[1] = plainTake(a.r, a.m)
	want.replicas[2], want.sent[2], want.isDone[2] = plainRecover(a.r, a.at[0], a.at[1])
	want.replicas[3], want.sent[3], want.isDone[3] = plainHurry(a.r, a.at[0], a.at[1])
	want.replicas[4], want.isDone[4] = plainCrash(a.r)
	isGroup := slices.Contains(groups, a.n)
	if isGroup && isBelow(a.n, a.at[0]) {
		want.replicas[5], want.isDone[5] = replica(a.at[0], table(a.n)), true
	}
	if isGroup && plainMost(a.n, len(a.seen)) && len(a.seen) <= a.n && plainSeen(a.n, a.seen) {
		want.way, want.cmd, want.attr = plainChoose(a.n, a.seen)
		want.isDone[6] = true
	}
	return want
}

func (a replicaAnswers) same(b replicaAnswers) bool {
	for i := range a.replicas {
		if !sameReplica(a.replicas[i], b.replicas[i]) {
			return false
		}
	}
	for i := range a.sent {
		if !sameMsgs(a.sent[i], b.sent[i]) {
			return false
		}
	}
	return a.isGood == b.isGood && a.way == b.way && a.cmd == b.cmd && plainSame(a.attr, b.attr) && a.isDone == b.isDone
}

func (a replicaArgs) clone() replicaArgs {
	a.r, a.m, a.seen = cloneReplica(a.r), cloneMsg(a.m), cloneRows(a.seen)
	return a
}

func (a replicaArgs) same(b replicaArgs) bool {
	return sameReplica(a.r, b.r) && plainSameMsg(a.m, b.m) && slices.EqualFunc(a.seen, b.seen, sameRow)
}

// goodArgs is args as said, most of them such that something is done.
func (m *mixer) goodArgs(n int) replicaArgs {
	r := m.replica(n)
	a := replicaArgs{n: n, r: r, c: mixedCmds[m.next(len(mixedCmds))], m: m.msgTo(r), at: instancesOf(n)[m.next(n*impl.MaxRow)]}
	if len(r.Leads) > 0 && m.next(2) == 0 {
		l := r.Leads[m.next(len(r.Leads))]
		a.at = instance{l.Rep, l.No}
	}
	a.seen = m.seen(n)
	return a
}

// seen is rows of a majority, in some cases all alike, or all of one state.
func (m *mixer) seen(n int) []impl.Row {
	var rows []impl.Row
	first, alike := m.row(n, math.MaxInt), m.next(3)
	if alike == 0 {
		first.Vote = 0
	}
	for range n/2 + 1 + m.next(n-n/2) {
		r := m.row(n, math.MaxInt)
		if alike == 0 || alike == 1 && r.State != first.State {
			r = cloneRow(first)
		}
		rows = append(rows, r)
	}
	return rows
}

func someReplicaArgs(count int) []replicaArgs {
	m := mixer(43)
	var all []replicaArgs
	for _, n := range groups {
		for range count {
			all = append(all, m.goodArgs(n))
		}
		full := m.goodArgs(n)
		full.r, full.at = fullReplica(n), instance{0, 1}
		all = append(all, full)
	}
	return all
}

// badReplicaArgs is args of which few are as said.
func badReplicaArgs() []replicaArgs {
	m := mixer(47)
	var all []replicaArgs
	for _, n := range groups {
		bad, cmds, msgs, rows := badReplicas(n), badCmds(), badMsgs(n), badRows(n)
		for i := range 4000 {
			a := m.goodArgs(n)
			switch i % 7 {
			case 0:
				a.r = cloneReplica(bad[m.next(len(bad))])
			case 1:
				a.c = cmds[m.next(len(cmds))]
			case 2:
				a.m = cloneMsg(msgs[m.next(len(msgs))])
				// Most of those are not To Me by chance alone.
				a.m.To = m.pick(a.m.To, a.r.Me)
			case 3:
				a.m.To, a.m.From = a.m.From, a.m.To
			case 4:
				a.at = badInstances(n)[m.next(len(badInstances(n)))]
			case 5:
				a.seen = append(a.seen[:m.next(len(a.seen))], cloneRow(rows[m.next(len(rows))]))
			case 6:
				a.n = append(noGroups, 8-n)[m.next(len(noGroups)+1)]
			}
			all = append(all, a)
		}
		for _, r := range bad {
			a := m.goodArgs(n)
			a.r = r
			all = append(all, a)
		}
	}
	return all
}

func checkReplicaAnswers(t *testing.T, a replicaArgs) {
	t.Helper()
	if got, want := a.answers(), a.plainAnswers(); !got.same(want) {
		t.Error("of", a, "came", got, "not", want)
	}
}

func TestPromise22Chapter8AcceptsAll(t *testing.T) {
	for _, a := range slices.Concat(someReplicaArgs(2000), badReplicaArgs()) {
		checkReplicaAnswers(t, a)
	}
}

// numbersOfReplica is all numbers of a replica.
func numbersOfReplica(r *impl.Replica) []*int {
	numbers := []*int{&r.Me, &r.Table.N}
	addAttr := func(a *impl.Attr) {
		numbers = append(numbers, &a.Seq)
		for rep := range a.Deps {
			numbers = append(numbers, &a.Deps[rep])
		}
	}
	addCmd := func(c *impl.Cmd) {
		numbers = append(numbers, &c.Kind, &c.Id, &c.From, &c.To, &c.Amount)
	}
	addRows := func(rows []impl.Row) {
		for i := range rows {
			numbers = append(numbers, &rows[i].Ballot, &rows[i].Vote, &rows[i].State)
			addCmd(&rows[i].Cmd)
			addAttr(&rows[i].Attr)
		}
	}
	for _, rows := range r.Table.Rows {
		addRows(rows)
	}
	for i := range r.Leads {
		l := &r.Leads[i]
		numbers = append(numbers, &l.Rep, &l.No, &l.Ballot, &l.Phase)
		addCmd(&l.Cmd)
		addAttr(&l.First)
		addAttr(&l.Attr)
		addRows(l.Seen)
		for at := range l.Who {
			numbers = append(numbers, &l.Who[at])
		}
	}
	return numbers
}

func TestPromise22Chapter8OfFewChanges(t *testing.T) {
	numbers := []int{math.MinInt, -1, 0, 1, 2, 3, 4, 5, 6, 7, 8, 9, 17, 999, 1000, 9999, 10000, 1 << 32, math.MaxInt}
	for _, n := range groups {
		m := mixer(n)
		for range 4000 {
			a := m.goodArgs(n)
			if m.next(4) == 0 {
				a.r = fullReplica(n)
			}
			fields := slices.Concat(numbersOfReplica(&a.r), fieldsOf(&a.m), []*int{&a.n, &a.at[0], &a.at[1], &a.c.Kind, &a.c.Id, &a.c.From})
			for range 1 + m.next(2) {
				*fields[m.next(len(fields))] = numbers[m.next(len(numbers))]
			}
			checkReplicaAnswers(t, a)
		}
	}
}

// TestPromise22Chapter8OfEachField changes each number of a replica alone.
func TestPromise22Chapter8OfEachField(t *testing.T) {
	for _, n := range groups {
		full := fullReplica(n)
		for at := range numbersOfReplica(&full) {
			for _, number := range []int{math.MinInt, -1, 0, 1, 2, 3, 4, 6, 7, 17, 999, 1000, 9999, 10000, math.MaxInt} {
				r := fullReplica(n)
				*numbersOfReplica(&r)[at] = number
				if got := impl.GoodReplica(r); got != plainGoodReplica(r) {
					t.Error("GoodReplica", r, got)
				}
			}
		}
	}
}

func rowsWithHidden(rows []impl.Row, rest int, behind impl.Row) []impl.Row {
	long := withHidden(rows, behind)
	for i := range rows {
		long[i] = rowWithHidden(rows[i], rest)
	}
	return long
}

// replicaWithHidden has, behind the length of its lists, rest, the row behind,
// and a lead of 0.1, which would be a second one.
func replicaWithHidden(r impl.Replica, rest int, behind impl.Row) impl.Replica {
	long := replica(r.Me, tableWithHidden(r.Table, rest, behind), withHidden(r.Leads, hiddenLead)...)
	for i, l := range r.Leads {
		long.Leads[i].First.Deps = withHidden(l.First.Deps, rest)
		long.Leads[i].Attr.Deps = withHidden(l.Attr.Deps, rest+1)
		long.Leads[i].Who = withHidden(l.Who, rest)
		long.Leads[i].Seen = rowsWithHidden(l.Seen, rest, behind)
	}
	return long
}

var hiddenLead = impl.Lead{No: 1, Ballot: 77, Phase: impl.LdPre}

func checkRowsKept(t *testing.T, got, want []impl.Row, rest int, behind impl.Row) {
	t.Helper()
	for i, r := range want {
		checkKept(t, "a row", got[i].Attr.Deps, r.Attr.Deps, rest)
	}
	for _, r := range got[len(got) : len(got)+hidden] {
		if !sameRow(r, behind) {
			t.Error("wrote a row behind the length of", want)
		}
	}
}

// checkReplicaKept reports where got, made by replicaWithHidden(want, rest,
// behind), was written to.
func checkReplicaKept(t *testing.T, got, want impl.Replica, rest int, behind impl.Row) {
	t.Helper()
	if !sameReplica(got, want) {
		t.Error("the argument became", got, "was", want)
		return
	}
	checkTableKept(t, got.Table, want.Table, rest, behind)
	for i, l := range want.Leads {
		checkKept(t, "First", got.Leads[i].First.Deps, l.First.Deps, rest)
		checkKept(t, "Attr", got.Leads[i].Attr.Deps, l.Attr.Deps, rest+1)
		checkKept(t, "Who", got.Leads[i].Who, l.Who, rest)
		checkRowsKept(t, got.Leads[i].Seen, l.Seen, rest, behind)
	}
	for _, l := range got.Leads[len(got.Leads) : len(got.Leads)+hidden] {
		if !sameLead(l, hiddenLead) {
			t.Error("wrote a lead behind the length of", want)
		}
	}
}

func TestPromise22Chapter8KeepsArguments(t *testing.T) {
	args := someReplicaArgs(1000)
	for i, bad := range badReplicaArgs() {
		if i%11 == 0 {
			args = append(args, bad)
		}
	}
	for i, a := range args {
		plain, want := a.clone(), a.answers()
		n := max(a.r.Table.N, 0) % 8
		behinds := []impl.Row{
			// Each of these would show in an answer, or make a replica a bad one.
			{Ballot: 88, State: impl.RwAcc, Vote: 88, Cmd: move(1, 0, 1, 1), Attr: attr(999, slices.Repeat([]int{impl.MaxRow}, n)...)},
			{Ballot: 99, State: impl.RwPre, Cmd: move(2, 2, 3, 1), Attr: attr(1, make([]int, n)...)},
			{Ballot: -1},
		}
		behind, rest := behinds[i%3], i%4-1
		long := a
		long.r, long.seen = replicaWithHidden(a.r, rest, behind), rowsWithHidden(a.seen, rest, behind)
		long.m.Attr.Deps = withHidden(a.m.Attr.Deps, rest)
		if got := long.answers(); !got.same(want) {
			t.Error("reads behind a length:", a, got, "not", want)
		}
		checkReplicaKept(t, long.r, plain.r, rest, behind)
		checkRowsKept(t, long.seen, plain.seen, rest, behind)
		checkKept(t, "TakeMsg's message", long.m.Attr.Deps, plain.m.Attr.Deps, rest)
		if !a.same(plain) {
			t.Error("the arguments became", a, "were", plain)
		}
	}
}

// replicaMemory gathers the lists of what may share none of them.
type replicaMemory struct {
	tableMemory
	leads [][]impl.Lead
	sent  [][]impl.Msg
}

func (m *replicaMemory) addRows(rows []impl.Row) {
	m.rows = append(m.rows, rows)
	for _, r := range rows {
		m.addAttrs(r.Attr)
	}
}

func (m *replicaMemory) addReplicas(replicas ...impl.Replica) {
	for _, r := range replicas {
		m.addTables(r.Table)
		m.leads = append(m.leads, r.Leads)
		for _, l := range r.Leads {
			m.addAttrs(l.First, l.Attr)
			m.numbers = append(m.numbers, l.Who)
			m.addRows(l.Seen)
		}
	}
}

func (m *replicaMemory) addMsgs(msgs []impl.Msg) {
	m.sent = append(m.sent, msgs)
	for _, one := range msgs {
		m.addAttrs(one.Attr)
	}
}

// check writes to all the memory of each list, up to its capacity, and reports
// where that shows in another one.
func (m *replicaMemory) check(t *testing.T, what string) {
	t.Helper()
	m.tableMemory.check(t, what)
	checkApart(t, what+", leads", m.leads, func(l *impl.Lead) *int { return &l.Ballot })
	checkApart(t, what+", messages", m.sent, func(one *impl.Msg) *int { return &one.Ballot })
}

func TestPromise22Chapter8IsNewMemory(t *testing.T) {
	for _, a := range someReplicaArgs(1000) {
		given, want := a.clone(), a.answers()
		var m replicaMemory
		m.addReplicas(given.r)
		m.addRows(given.seen)
		m.addAttrs(given.m.Attr)
		for range 2 {
			got := given.answers()
			if !got.same(want) {
				t.Error("differs at another call:", a, got, "not", want)
			}
			m.addReplicas(got.replicas[:]...)
			m.addAttrs(got.attr)
			for _, sent := range got.sent {
				m.addMsgs(sent)
			}
		}
		m.check(t, "chapter 8")
		if again := a.answers(); !again.same(want) {
			t.Error("differs at a later call:", a, again, "not", want)
		}
	}
}

// checkBehindIsZero reports what is handed out behind a list's length.
func checkBehindIsZero(t *testing.T, r impl.Replica) {
	t.Helper()
	for _, l := range r.Leads[len(r.Leads):cap(r.Leads)] {
		if !sameLead(l, impl.Lead{}) {
			t.Error("a lead behind the length of the leads:", l)
		}
	}
	for _, l := range r.Leads {
		for _, rep := range l.Who[len(l.Who):cap(l.Who)] {
			if rep != 0 {
				t.Error("a replica behind the length of Who:", rep)
			}
		}
		for _, of := range l.Seen[len(l.Seen):cap(l.Seen)] {
			if !isZeroRow(of) {
				t.Error("a row behind the length of Seen:", of)
			}
		}
	}
}

func TestPromise22Chapter8HandsOutNothingBehindALength(t *testing.T) {
	for _, a := range someReplicaArgs(1000) {
		for _, r := range a.answers().replicas {
			checkBehindIsZero(t, r)
		}
	}
}
