package tests

import (
	"math"
	"slices"
	"testing"

	"loop.example/g00698/impl"
)

func (m *mixer) pick(numbers ...int) int {
	return numbers[m.next(len(numbers))]
}

var mixedCmds = someCmds([]int{1, 2}, []int{30})

// attr has small numbers, but for a few Seqs that nothing may stand behind.
func (m *mixer) attr(n int) impl.Attr {
	a := attr(m.next(4), make([]int, n)...)
	if m.next(60) == 0 {
		a.Seq = m.pick(998, 999)
	}
	for range m.next(3) {
		a.Deps[m.next(n)] = m.next(impl.MaxRow + 1)
	}
	return a
}

// row is a good one that is RwCom in one of rare cases.
func (m *mixer) row(n, rare int) impl.Row {
	ballot := m.pick(0, 0, 0, 8, 9, 10, 16, 17, 9998, 9999)
	if m.next(4) == 0 {
		return promised(n, ballot)
	}
	r := row(m.pick(impl.RwPre, impl.RwAcc), ballot, ballot, mixedCmds[m.next(len(mixedCmds))], m.attr(n))
	if m.next(2) == 0 {
		r.Vote = m.pick(0, m.next(ballot+1))
	}
	if m.next(rare) == 0 {
		r.State = impl.RwCom
	}
	return r
}

// who is a rising list of replicas, me among them.
func (m *mixer) who(n, me int) []int {
	who := []int{me}
	for rep := range n {
		if rep != me && m.next(3) == 0 {
			who = append(who, rep)
		}
	}
	slices.Sort(who)
	return who
}

// lead is a good one of me, with a Ballot near that of a row of the instance.
func (m *mixer) lead(n, me int, at instance, of impl.Row) impl.Lead {
	ballot := max(0, min(9999, of.Ballot+m.pick(-1, 0, 0, 0, 0, 1)))
	c, first, who := mixedCmds[m.next(len(mixedCmds))], m.attr(n), m.who(n, me)
	switch m.pick(phases...) {
	case impl.LdPre:
		return preLead(at, m.pick(0, ballot), c, first, plainJoin(first, m.attr(n)), m.next(2) == 0, who...)
	case impl.LdAcc:
		return accLead(at, ballot, c, first, who...)
	}
	var seen []impl.Row
	for range who {
		of := m.row(n, math.MaxInt)
		if m.next(2) == 0 && len(seen) > 0 {
			of = cloneRow(seen[0])
		}
		seen = append(seen, of)
	}
	for i := range seen {
		if seen[i].State == impl.RwCom {
			seen[i].State = impl.RwPre
		}
	}
	return prepLead(at, ballot, seen, who...)
}

func (m *mixer) replica(n int) impl.Replica {
	return m.replicaOf(n, m.next(n))
}

// replicaOf is a good one with rows and leads of all kinds.
func (m *mixer) replicaOf(n, me int) impl.Replica {
	r := replica(me, table(n))
	for rep := range n {
		for range m.next(impl.MaxRow + 1) {
			r.Table.Rows[rep] = append(r.Table.Rows[rep], m.row(n, 8))
		}
	}
	for _, at := range instancesOf(n) {
		if m.next(3) > 0 {
			r.Leads = append(r.Leads, m.lead(n, r.Me, at, plainRow(r.Table, at)))
		}
	}
	return r
}

func someReplicas(n, count int) []impl.Replica {
	m := mixer(100 + n)
	replicas := []impl.Replica{replica(0, table(n)), replica(n-1, table(n)), fullReplica(n)}
	for range count {
		replicas = append(replicas, m.replica(n))
	}
	return replicas
}

// fullReplica is a good one with leads in each phase, each number of which has
// a meaning.
func fullReplica(n int) impl.Replica {
	a, b := attr(3, slices.Repeat([]int{1}, n)...), attr(4, slices.Repeat([]int{2}, n)...)
	x := table(n, []impl.Row{row(impl.RwPre, 0, 0, move(7, 0, 2, 30), a)}, []impl.Row{
		emptyRow(n), row(impl.RwAcc, 17, 17, read(8, 2), b), row(impl.RwCom, 9, 1, move(9, 1, 3, 40), b),
	}, []impl.Row{promised(n, 25), row(impl.RwPre, 25, 8, read(4, 1), a)})
	return replica(1, x,
		preLead(instance{0, 1}, 0, move(7, 0, 2, 30), a, b, true, 0, 1),
		prepLead(instance{1, 1}, 17, []impl.Row{row(impl.RwPre, 17, 9, read(8, 2), a), row(impl.RwAcc, 17, 10, read(9, 1), b), promised(n, 17)}, 0, 1, 2),
		accLead(instance{1, 2}, 17, read(8, 2), b, 1, 2),
		preLead(instance{2, 2}, 25, read(4, 1), b, a, false, 1),
		prepLead(instance{n - 1, impl.MaxRow}, impl.MaxBallot, []impl.Row{emptyRow(n)}, 1),
	)
}

// replicaChanges gathers replicas that differ from a good one in few fields.
type replicaChanges struct {
	n   int
	all []impl.Replica
}

func (c *replicaChanges) add(change func(*impl.Replica)) {
	r := fullReplica(c.n)
	change(&r)
	c.all = append(c.all, r)
}

// addLead changes one lead, of which place tells the number.
func (c *replicaChanges) addLead(place int, change func(*impl.Lead)) {
	c.add(func(r *impl.Replica) { change(&r.Leads[place]) })
}

// badReplicas is replicas of which each is bad, most of them in one thing.
func badReplicas(n int) []impl.Replica {
	c := replicaChanges{n: n}
	c.addBadParts()
	for place := range fullReplica(n).Leads {
		c.addBadNumbers(place)
		c.addBadContents(place)
		c.addBadWho(place)
	}
	c.addBadPhases()
	c.addBadSeen()
	c.addBadOrders()
	return append(c.all, impl.Replica{}, replica(3, table(3)), replica(5, table(5)), replica(0, impl.Table{N: 3}), replica(0, impl.Table{}))
}

func (c *replicaChanges) addBadParts() {
	for _, me := range []int{math.MinInt, -1, c.n, c.n + 1, 1 + 1<<32, math.MaxInt} {
		c.add(func(r *impl.Replica) { r.Me = me })
		c.add(func(r *impl.Replica) { r.Me, r.Leads = me, nil })
	}
	for me := range c.n {
		if me != 1 {
			// Some lead's Who is without that one.
			c.add(func(r *impl.Replica) { r.Me = me })
		}
	}
	for i, x := range badTables() {
		if i%13 == 0 {
			c.add(func(r *impl.Replica) { r.Table = cloneTable(x) })
			c.add(func(r *impl.Replica) { r.Table, r.Leads, r.Me = cloneTable(x), nil, 0 })
		}
	}
	c.add(func(r *impl.Replica) { r.Table = table(8 - c.n) })
}

func (c *replicaChanges) addBadNumbers(place int) {
	for _, at := range badInstances(c.n) {
		c.addLead(place, func(l *impl.Lead) { l.Rep, l.No = at[0], at[1] })
		c.add(func(r *impl.Replica) {
			r.Leads = r.Leads[place : place+1]
			r.Leads[0].Rep, r.Leads[0].No = at[0], at[1]
		})
	}
	for _, ballot := range badBallots {
		c.addLead(place, func(l *impl.Lead) { l.Ballot = ballot })
	}
	for _, phase := range []int{math.MinInt, -1, 0, 4, 5, 1 + 1<<32, math.MaxInt} {
		c.addLead(place, func(l *impl.Lead) { l.Phase = phase })
	}
}

func (c *replicaChanges) addBadContents(place int) {
	for _, bad := range badCmds() {
		c.addLead(place, func(l *impl.Lead) { l.Cmd = bad })
	}
	for _, a := range badAttrs(c.n) {
		c.addLead(place, func(l *impl.Lead) { l.First = cloneAttr(a) })
		c.addLead(place, func(l *impl.Lead) { l.Attr = cloneAttr(a) })
		c.addLead(place, func(l *impl.Lead) { l.First, l.Attr = cloneAttr(a), cloneAttr(a) })
	}
}

func (c *replicaChanges) addBadWho(place int) {
	lists := [][]int{
		nil, {}, {0}, {2}, {0, 2}, {1, 0}, {2, 1}, {1, 1}, {0, 0, 1}, {0, 1, 1}, {1, 2, 2}, {0, 2, 1}, {2, 1, 0}, {1, 2, 0},
		{-1, 1}, {math.MinInt, 1}, {1, c.n}, {1, c.n + 1}, {1, 2, 1 << 32}, {1, math.MaxInt}, {0, 1, 2, 3, 4, 5}, slices.Repeat([]int{1}, 1000), numbersBelow(1000),
	}
	if c.n == 5 {
		lists = append(lists, []int{0, 2, 3, 4}, []int{0, 1, 2, 4, 3}, []int{3, 4})
	}
	for _, who := range lists {
		c.addLead(place, func(l *impl.Lead) { l.Who = slices.Clone(who) })
		c.addLead(place, func(l *impl.Lead) {
			l.Who = slices.Clone(who)
			if l.Phase == impl.LdPrep {
				l.Seen = slices.Repeat([]impl.Row{promised(c.n, 9)}, len(who))
			}
		})
	}
}

// addBadPhases gives leads in one phase what is good in another one only.
func (c *replicaChanges) addBadPhases() {
	a := attr(9, slices.Repeat([]int{1}, c.n)...)
	none := emptyRow(c.n).Attr
	for _, prep := range []int{1, 4} {
		for _, phase := range []int{impl.LdPre, impl.LdAcc} {
			c.addLead(prep, func(l *impl.Lead) { l.Phase = phase })
		}
		for _, other := range []impl.Cmd{read(1, 0), move(8, 0, 2, 30)} {
			c.addLead(prep, func(l *impl.Lead) { l.Cmd = other })
		}
		c.addLead(prep, func(l *impl.Lead) { l.First = cloneAttr(a) })
		c.addLead(prep, func(l *impl.Lead) { l.Attr = cloneAttr(a) })
		c.addLead(prep, func(l *impl.Lead) { l.First.Seq = 1 })
		c.addLead(prep, func(l *impl.Lead) { l.Attr.Seq = 1 })
		c.addLead(prep, func(l *impl.Lead) { l.First.Deps[c.n-1] = 1 })
		c.addLead(prep, func(l *impl.Lead) { l.Attr.Deps[0] = 1 })
		c.addLead(prep, func(l *impl.Lead) { l.Same = true })
	}
	for _, pre := range []int{0, 3} {
		c.addLead(pre, func(l *impl.Lead) { l.Phase = impl.LdAcc })
		c.addLead(pre, func(l *impl.Lead) { l.Phase = impl.LdPrep })
		c.addLead(pre, func(l *impl.Lead) {
			l.Phase, l.Cmd, l.First, l.Attr, l.Same = impl.LdPrep, impl.Cmd{}, none, none, false
		})
	}
	c.addLead(0, func(l *impl.Lead) { l.Phase, l.First = impl.LdAcc, cloneAttr(l.Attr) })
	c.addLead(2, func(l *impl.Lead) { l.Same = true })
	c.addLead(2, func(l *impl.Lead) { l.First.Seq++ })
	c.addLead(2, func(l *impl.Lead) { l.Attr.Deps[c.n-1]++ })
	c.addLead(2, func(l *impl.Lead) { l.First = cloneAttr(none) })
	c.addLead(2, func(l *impl.Lead) { l.Phase = impl.LdPrep })
}

func (c *replicaChanges) addBadSeen() {
	for _, place := range []int{0, 2, 3} {
		for _, count := range []int{1, len(fullReplica(c.n).Leads[place].Who), 2, 3, 1000} {
			c.addLead(place, func(l *impl.Lead) { l.Seen = slices.Repeat([]impl.Row{emptyRow(c.n)}, count) })
		}
	}
	for _, place := range []int{1, 4} {
		for _, count := range []int{0, 1, 2, 3, 4, 5, 6, 1000} {
			if count != len(fullReplica(c.n).Leads[place].Who) {
				c.addLead(place, func(l *impl.Lead) { l.Seen = slices.Repeat([]impl.Row{emptyRow(c.n)}, count) })
			}
		}
	}
	for i := range 3 {
		c.addLead(1, func(l *impl.Lead) { l.Seen[i] = row(impl.RwCom, 17, 9, read(8, 2), l.Seen[0].Attr) })
		c.addLead(1, func(l *impl.Lead) { l.Seen[i] = row(impl.RwCom, 0, 0, impl.Cmd{}, emptyRow(c.n).Attr) })
		c.addLead(1, func(l *impl.Lead) { l.Seen[i] = emptyRow(8 - c.n) })
		for _, bad := range badRows(c.n) {
			c.addLead(1, func(l *impl.Lead) { l.Seen[i] = cloneRow(bad) })
		}
	}
}

func (c *replicaChanges) addBadOrders() {
	for i := range fullReplica(c.n).Leads {
		for j := range i {
			c.add(func(r *impl.Replica) { r.Leads[i], r.Leads[j] = r.Leads[j], r.Leads[i] })
		}
		c.add(func(r *impl.Replica) { r.Leads = slices.Insert(r.Leads, i, cloneLead(r.Leads[i])) })
		c.add(func(r *impl.Replica) { r.Leads = append(r.Leads, cloneLead(r.Leads[i])) })
		// Two of one instance that are not alike.
		c.add(func(r *impl.Replica) {
			at := instance{r.Leads[i].Rep, r.Leads[i].No}
			r.Leads = slices.Insert(r.Leads, i, accLead(at, 8, read(1, 0), emptyRow(c.n).Attr, 1))
		})
	}
	c.add(func(r *impl.Replica) { slices.Reverse(r.Leads) })
	c.add(func(r *impl.Replica) { r.Leads = slices.Repeat(r.Leads[:1], 1000) })
	c.add(func(r *impl.Replica) { r.Leads = make([]impl.Lead, 1000) })
}

func TestReplicaConstants(t *testing.T) {
	if !slices.Equal(phases, []int{1, 2, 3}) || impl.WyAccept != 1 || impl.WyAgain != 2 || impl.WyNone != 3 {
		t.Error("constants:", phases, impl.WyAccept, impl.WyAgain, impl.WyNone)
	}
}

func TestNewReplica(t *testing.T) {
	for _, n := range append(groups, noGroups...) {
		for _, me := range []int{math.MinInt, -5, -1, 0, 1, 2, 3, 4, 5, 6, 1 << 32, math.MaxInt} {
			got, ok := impl.NewReplica(n, me)
			want := impl.Replica{}
			isIn := slices.Contains(groups, n) && isBelow(n, me)
			if isIn {
				want = replica(me, table(n))
			}
			if ok != isIn || !sameReplica(got, want) || impl.GoodReplica(got) != isIn {
				t.Error("NewReplica", n, me, got, ok)
			}
		}
	}
}

func TestGoodReplica(t *testing.T) {
	for _, n := range groups {
		for _, r := range append(someReplicas(n, 1000), goodReplicas(n)...) {
			if !plainGoodReplica(r) || !impl.GoodReplica(r) {
				t.Error("not good:", r)
			}
		}
	}
}

// goodReplicas is replicas with what may be in a good one, but seldom is.
func goodReplicas(n int) []impl.Replica {
	c := replicaChanges{n: n}
	c.add(func(*impl.Replica) {})
	c.add(func(r *impl.Replica) { r.Leads = nil })
	c.add(func(r *impl.Replica) { r.Leads = []impl.Lead{} })
	c.add(func(r *impl.Replica) { r.Table = table(n) })
	c.add(func(r *impl.Replica) {
		r.Table = fullTable(n, row(impl.RwCom, 9999, 9999, read(999, 3), r.Leads[0].Attr))
	})
	for place := range fullReplica(n).Leads {
		for _, ballot := range []int{0, 1, 8, 9998, 9999} {
			c.addLead(place, func(l *impl.Lead) { l.Ballot = ballot })
		}
		c.addLead(place, func(l *impl.Lead) {
			l.Who = numbersBelow(n)
			if l.Phase == impl.LdPrep {
				l.Seen = slices.Repeat([]impl.Row{row(impl.RwAcc, 9, 9, impl.Cmd{}, l.Attr)}, n)
			}
		})
		c.add(func(r *impl.Replica) { r.Leads = r.Leads[place : place+1] })
	}
	for _, place := range []int{0, 3} {
		c.addLead(place, func(l *impl.Lead) { l.Same = !l.Same })
		c.addLead(place, func(l *impl.Lead) { l.Cmd = impl.Cmd{} })
		c.addLead(place, func(l *impl.Lead) { l.First = cloneAttr(l.Attr) })
		c.addLead(place, func(l *impl.Lead) { l.Seen = []impl.Row{} })
		c.addLead(place, func(l *impl.Lead) { l.Phase, l.First, l.Same = impl.LdAcc, cloneAttr(l.Attr), false })
	}
	c.addLead(2, func(l *impl.Lead) { l.Phase = impl.LdPre })
	c.addLead(2, func(l *impl.Lead) { l.Cmd, l.First, l.Attr = impl.Cmd{}, emptyRow(n).Attr, emptyRow(n).Attr })
	c.addLead(1, func(l *impl.Lead) { l.Phase, l.Seen = impl.LdAcc, nil })
	c.add(func(r *impl.Replica) {
		r.Leads = nil
		for _, at := range instancesOf(n) {
			r.Leads = append(r.Leads, accLead(at, 8, read(1, 0), r.Table.Rows[0][0].Attr, 1))
		}
	})
	return c.all
}

func TestGoodReplicaInvalid(t *testing.T) {
	for _, n := range groups {
		for i, r := range badReplicas(n) {
			if plainGoodReplica(r) || impl.GoodReplica(r) {
				t.Error("good:", n, i, r)
			}
		}
	}
}

func TestCrashOf(t *testing.T) {
	for _, n := range groups {
		for _, r := range append(someReplicas(n, 300), goodReplicas(n)...) {
			got, ok := impl.CrashOf(r)
			if !ok || !sameReplica(got, replica(r.Me, r.Table)) || len(got.Leads) != 0 {
				t.Error("CrashOf", r, got, ok)
			}
			again, ok := impl.CrashOf(got)
			if !ok || !sameReplica(again, got) {
				t.Error("CrashOf without Leads", got, again, ok)
			}
		}
		for _, r := range badReplicas(n) {
			if got, ok := impl.CrashOf(r); ok || !sameReplica(got, impl.Replica{}) {
				t.Error("CrashOf", r, got, ok)
			}
		}
	}
}
