package tests

import (
	"fmt"
	"slices"
	"strings"

	"loop.example/g00698/impl"
)

var phases = []int{impl.LdPre, impl.LdAcc, impl.LdPrep}

var phaseWords = map[int]string{impl.LdPre: "pre", impl.LdAcc: "acc", impl.LdPrep: "prep"}

var stateWords = map[int]string{impl.RwNone: "none", impl.RwPre: "pre", impl.RwAcc: "acc", impl.RwCom: "com"}

func row(state, ballot, vote int, c impl.Cmd, a impl.Attr) impl.Row {
	return impl.Row{Ballot: ballot, Vote: vote, State: state, Cmd: c, Attr: cloneAttr(a)}
}

// promised is an empty row, but for its Ballot.
func promised(n, ballot int) impl.Row {
	r := emptyRow(n)
	r.Ballot = ballot
	return r
}

func preLead(at instance, ballot int, c impl.Cmd, first, a impl.Attr, same bool, who ...int) impl.Lead {
	return impl.Lead{
		Rep: at[0], No: at[1], Ballot: ballot, Phase: impl.LdPre, Cmd: c,
		First: cloneAttr(first), Attr: cloneAttr(a), Same: same, Who: who,
	}
}

func accLead(at instance, ballot int, c impl.Cmd, a impl.Attr, who ...int) impl.Lead {
	l := preLead(at, ballot, c, a, a, false, who...)
	l.Phase = impl.LdAcc
	return l
}

// prepLead is a lead of the group of which seen, one row at least, are rows.
func prepLead(at instance, ballot int, seen []impl.Row, who ...int) impl.Lead {
	none := emptyRow(len(seen[0].Attr.Deps)).Attr
	l := preLead(at, ballot, impl.Cmd{}, none, none, false, who...)
	l.Phase, l.Seen = impl.LdPrep, seen
	return l
}

func replica(me int, x impl.Table, leads ...impl.Lead) impl.Replica {
	return impl.Replica{Me: me, Table: x, Leads: leads}
}

func cloneRows(rows []impl.Row) []impl.Row {
	var clone []impl.Row
	for _, r := range rows {
		clone = append(clone, cloneRow(r))
	}
	return clone
}

func cloneLead(l impl.Lead) impl.Lead {
	l.First, l.Attr = cloneAttr(l.First), cloneAttr(l.Attr)
	l.Who, l.Seen = slices.Clone(l.Who), cloneRows(l.Seen)
	return l
}

func cloneReplica(r impl.Replica) impl.Replica {
	clone := replica(r.Me, cloneTable(r.Table))
	for _, l := range r.Leads {
		clone.Leads = append(clone.Leads, cloneLead(l))
	}
	return clone
}

func sameLead(a, b impl.Lead) bool {
	return a.Rep == b.Rep && a.No == b.No && a.Ballot == b.Ballot && a.Phase == b.Phase && a.Cmd == b.Cmd &&
		plainSame(a.First, b.First) && plainSame(a.Attr, b.Attr) && a.Same == b.Same &&
		slices.Equal(a.Who, b.Who) && slices.EqualFunc(a.Seen, b.Seen, sameRow)
}

func sameReplica(a, b impl.Replica) bool {
	return a.Me == b.Me && sameTable(a.Table, b.Table) && slices.EqualFunc(a.Leads, b.Leads, sameLead)
}

func sameMsgs(a, b []impl.Msg) bool {
	return slices.EqualFunc(a, b, plainSameMsg)
}

func rowText(r impl.Row) string {
	return fmt.Sprintf("%s %d %d|%s|%s", stateWords[r.State], r.Ballot, r.Vote, plainText(r.Cmd), plainAttrText(r.Attr))
}

func leadText(l impl.Lead) string {
	seen := make([]string, len(l.Seen))
	for i, r := range l.Seen {
		seen[i] = rowText(r)
	}
	return fmt.Sprintf("%s %d|%s|%s|%s|%v|%v|%s", phaseWords[l.Phase], l.Ballot, plainText(l.Cmd),
		plainAttrText(l.First), plainAttrText(l.Attr), l.Same, l.Who, strings.Join(seen, ";"))
}

// stateOf is all that a good replica has, in words: its rows and then its
// leads, each behind its instance.
func stateOf(r impl.Replica) []string {
	var lines []string
	for rep, rows := range r.Table.Rows {
		for i, of := range rows {
			lines = append(lines, fmt.Sprintf("%d.%d %s", rep, i+1, rowText(of)))
		}
	}
	for _, l := range r.Leads {
		lines = append(lines, fmt.Sprintf("%d.%d leads %s", l.Rep, l.No, leadText(l)))
	}
	return lines
}

func textsOf(msgs []impl.Msg) []string {
	var texts []string
	for _, m := range msgs {
		texts = append(texts, plainMsgText(m))
	}
	return texts
}

func isBallot(number int) bool {
	return isBelow(10000, number)
}

// plainGoodReplica tells rule by rule whether a replica is good.
func plainGoodReplica(r impl.Replica) bool {
	if !impl.GoodTable(r.Table) || !isBelow(r.Table.N, r.Me) {
		return false
	}
	for i, l := range r.Leads {
		if !plainGoodLead(r.Table.N, r.Me, l) {
			return false
		}
		if i > 0 && 10*r.Leads[i-1].Rep+r.Leads[i-1].No >= 10*l.Rep+l.No {
			return false
		}
	}
	return true
}

func plainGoodLead(n, me int, l impl.Lead) bool {
	if !slices.Contains(instancesOf(n), instance{l.Rep, l.No}) || !isBallot(l.Ballot) {
		return false
	}
	if !isRisingList(l.Who, n) || !slices.Contains(l.Who, me) {
		return false
	}
	none := emptyRow(n).Attr
	hasProposal := impl.GoodCmd(l.Cmd) && impl.GoodAttr(n, l.First) && impl.GoodAttr(n, l.Attr)
	hasNone := l.Cmd == impl.Cmd{} && plainSame(l.First, none) && plainSame(l.Attr, none)
	switch l.Phase {
	case impl.LdPre:
		return hasProposal && len(l.Seen) == 0
	case impl.LdAcc:
		return hasProposal && len(l.Seen) == 0 && plainSame(l.First, l.Attr) && !l.Same
	case impl.LdPrep:
		return hasNone && !l.Same && len(l.Seen) == len(l.Who) && plainSeen(n, l.Seen)
	}
	return false
}

// plainSeen tells whether rows are good ones and none of them RwCom.
func plainSeen(n int, rows []impl.Row) bool {
	for _, r := range rows {
		if !impl.GoodTable(table(n, []impl.Row{r})) || r.State == impl.RwCom {
			return false
		}
	}
	return true
}

func plainMost(n, count int) bool {
	return 2*count > n
}

func plainJoin(a, b impl.Attr) impl.Attr {
	joined := attr(max(a.Seq, b.Seq))
	for rep := range a.Deps {
		joined.Deps = append(joined.Deps, max(a.Deps[rep], b.Deps[rep]))
	}
	return joined
}

// plainChoose is ChooseOf of rows as said: way, the command and the attribute.
func plainChoose(n int, seen []impl.Row) (int, impl.Cmd, impl.Attr) {
	acc, pre := -1, -1
	isOne := true
	join := emptyRow(n).Attr
	for i, r := range seen {
		isOne = isOne && r.State == impl.RwPre && r.Vote == 0 && r.Cmd == seen[0].Cmd && plainSame(r.Attr, seen[0].Attr)
		if r.State == impl.RwAcc && (acc < 0 || r.Vote > seen[acc].Vote) {
			acc = i
		}
		if r.State == impl.RwPre {
			join = plainJoin(join, r.Attr)
			if pre < 0 || r.Vote > seen[pre].Vote {
				pre = i
			}
		}
	}
	switch {
	case acc >= 0:
		return impl.WyAccept, seen[acc].Cmd, cloneAttr(seen[acc].Attr)
	case isOne:
		return impl.WyAccept, seen[0].Cmd, cloneAttr(seen[0].Attr)
	case pre >= 0:
		return impl.WyAgain, seen[pre].Cmd, join
	}
	return impl.WyNone, impl.Cmd{}, join
}

// plainTurn is what a good replica does at one instance, sentence by sentence.
// Its leads are in a map; fails tells that a table would not be good.
type plainTurn struct {
	n, me int
	at    instance
	table impl.Table
	leads map[instance]impl.Lead
	sent  []impl.Msg
	fails bool
}

func plainTurnOf(r impl.Replica, rep, no int) *plainTurn {
	p := &plainTurn{n: r.Table.N, me: r.Me, at: instance{rep, no}, table: cloneTable(r.Table), leads: map[instance]impl.Lead{}}
	for _, l := range r.Leads {
		p.leads[instance{l.Rep, l.No}] = cloneLead(l)
	}
	return p
}

func (p *plainTurn) result() (impl.Replica, []impl.Msg, bool) {
	if p.fails {
		return impl.Replica{}, nil, false
	}
	r := replica(p.me, p.table)
	for _, at := range instancesOf(p.n) {
		if l, isThere := p.leads[at]; isThere {
			r.Leads = append(r.Leads, l)
		}
	}
	return r, p.sent, true
}

func (p *plainTurn) row() impl.Row {
	return plainRow(p.table, p.at)
}

func (p *plainTurn) set(r impl.Row) {
	p.table = withRow(p.table, p.at, cloneRow(r))
}

func (p *plainTurn) say(kind, to, ballot int, c impl.Cmd, a impl.Attr) {
	p.sent = append(p.sent, msg(kind, p.me, to, p.at[0], p.at[1], ballot, c, cloneAttr(a)))
}

func (p *plainTurn) sayAll(kind, ballot int, c impl.Cmd, a impl.Attr) {
	for to := range p.n {
		if to != p.me {
			p.say(kind, to, ballot, c, a)
		}
	}
}

func (p *plainTurn) accept(l impl.Lead) {
	if p.row().Ballot > l.Ballot {
		delete(p.leads, p.at)
		return
	}
	p.set(row(impl.RwAcc, l.Ballot, l.Ballot, l.Cmd, l.Attr))
	p.leads[p.at] = accLead(p.at, l.Ballot, l.Cmd, l.Attr, p.me)
	p.sayAll(impl.MsAcc, l.Ballot, l.Cmd, l.Attr)
}

func (p *plainTurn) learn(c impl.Cmd, a impl.Attr) {
	was := p.row()
	p.set(row(impl.RwCom, was.Ballot, was.Vote, c, a))
	delete(p.leads, p.at)
}

func (p *plainTurn) settle(c impl.Cmd, a impl.Attr) {
	p.learn(c, a)
	p.sayAll(impl.MsCom, 0, c, a)
}

func (p *plainTurn) attrFor(c impl.Cmd) impl.Attr {
	a := plainAttrFor(p.table, c, p.at)
	p.fails = p.fails || a.Seq > 999
	return a
}

func (p *plainTurn) propose(ballot int, c impl.Cmd, a impl.Attr) {
	p.set(row(impl.RwPre, ballot, ballot, c, a))
	p.leads[p.at] = preLead(p.at, ballot, c, a, a, true, p.me)
	p.sayAll(impl.MsPre, ballot, c, a)
}

// counted is the lead in that phase for which m is a new vote, with it.
func (p *plainTurn) counted(m impl.Msg, phase int) (impl.Lead, bool) {
	l, isThere := p.leads[p.at]
	if !isThere || l.Phase != phase || l.Ballot != m.Ballot || slices.Contains(l.Who, m.From) {
		return impl.Lead{}, false
	}
	l.Who = append(slices.Clone(l.Who), m.From)
	slices.Sort(l.Who)
	return l, true
}

func plainSubmit(r impl.Replica, c impl.Cmd) (impl.Replica, []impl.Msg, bool) {
	if !plainGoodReplica(r) || !impl.GoodCmd(c) || c.Kind == impl.CmNone || len(r.Table.Rows[r.Me]) >= 6 {
		return impl.Replica{}, nil, false
	}
	p := plainTurnOf(r, r.Me, len(r.Table.Rows[r.Me])+1)
	p.propose(0, c, p.attrFor(c))
	return p.result()
}

func plainRecover(r impl.Replica, rep, no int) (impl.Replica, []impl.Msg, bool) {
	if !plainGoodReplica(r) || !slices.Contains(instancesOf(r.Table.N), instance{rep, no}) {
		return impl.Replica{}, nil, false
	}
	p := plainTurnOf(r, rep, no)
	was := p.row()
	ballot, ok := plainNextBallot(was.Ballot, r.Me)
	p.fails = was.State == impl.RwCom || !ok
	p.leads[p.at] = prepLead(p.at, ballot, []impl.Row{cloneRow(was)}, r.Me)
	was.Ballot = ballot
	p.set(was)
	p.sayAll(impl.MsPrep, ballot, impl.Cmd{}, emptyRow(p.n).Attr)
	return p.result()
}

func plainHurry(r impl.Replica, rep, no int) (impl.Replica, []impl.Msg, bool) {
	if !plainGoodReplica(r) || !slices.Contains(instancesOf(r.Table.N), instance{rep, no}) {
		return impl.Replica{}, nil, false
	}
	p := plainTurnOf(r, rep, no)
	l := p.leads[p.at]
	p.fails = p.row().State == impl.RwCom || l.Phase != impl.LdPre || l.Ballot != 0 || !plainMost(p.n, len(l.Who))
	p.accept(l)
	return p.result()
}

func plainCrash(r impl.Replica) (impl.Replica, bool) {
	if !plainGoodReplica(r) {
		return impl.Replica{}, false
	}
	return replica(r.Me, r.Table), true
}

func plainTake(r impl.Replica, m impl.Msg) (impl.Replica, []impl.Msg, bool) {
	if !plainGoodReplica(r) || !plainGoodMsg(r.Table.N, m) || m.To != r.Me {
		return impl.Replica{}, nil, false
	}
	p := plainTurnOf(r, m.Rep, m.No)
	if was := p.row(); was.State == impl.RwCom {
		if m.Kind == impl.MsPre || m.Kind == impl.MsAcc || m.Kind == impl.MsPrep {
			p.say(impl.MsCom, m.From, 0, was.Cmd, was.Attr)
		}
		return p.result()
	}
	switch m.Kind {
	case impl.MsPre:
		p.takePre(m)
	case impl.MsPreOk:
		p.takePreOk(m)
	case impl.MsAcc:
		if m.Ballot >= p.row().Ballot {
			p.set(row(impl.RwAcc, m.Ballot, m.Ballot, m.Cmd, m.Attr))
			p.say(impl.MsAccOk, m.From, m.Ballot, impl.Cmd{}, emptyRow(p.n).Attr)
		}
	case impl.MsAccOk:
		if l, isNew := p.counted(m, impl.LdAcc); isNew {
			p.leads[p.at] = l
			if plainMost(p.n, len(l.Who)) {
				p.settle(l.Cmd, l.Attr)
			}
		}
	case impl.MsCom:
		p.learn(m.Cmd, m.Attr)
	case impl.MsPrep:
		if was := p.row(); m.Ballot >= was.Ballot {
			was.Ballot = m.Ballot
			p.set(was)
			p.say(impl.MsPrepOk, m.From, m.Ballot, was.Cmd, was.Attr)
			p.sent[0].Vote, p.sent[0].State = was.Vote, was.State
		}
	case impl.MsPrepOk:
		p.takePrepOk(m)
	}
	return p.result()
}

func (p *plainTurn) takePre(m impl.Msg) {
	was := p.row()
	switch {
	case m.Ballot < was.Ballot:
	case was.State == impl.RwAcc && was.Vote >= m.Ballot:
	case was.State == impl.RwPre && was.Vote == m.Ballot:
		p.say(impl.MsPreOk, m.From, m.Ballot, impl.Cmd{}, was.Attr)
	default:
		a := plainJoin(m.Attr, p.attrFor(m.Cmd))
		p.set(row(impl.RwPre, m.Ballot, m.Ballot, m.Cmd, a))
		p.say(impl.MsPreOk, m.From, m.Ballot, impl.Cmd{}, a)
	}
}

func (p *plainTurn) takePreOk(m impl.Msg) {
	l, isNew := p.counted(m, impl.LdPre)
	if !isNew {
		return
	}
	l.Attr = plainJoin(l.Attr, m.Attr)
	if !plainSame(m.Attr, l.First) {
		l.Same = false
	}
	p.leads[p.at] = l
	if l.Ballot == 0 && len(l.Who) == p.n && l.Same {
		p.settle(l.Cmd, l.First)
	} else if plainMost(p.n, len(l.Who)) && (l.Ballot != 0 || !l.Same) {
		p.accept(l)
	}
}

func (p *plainTurn) takePrepOk(m impl.Msg) {
	l, isNew := p.counted(m, impl.LdPrep)
	if !isNew {
		return
	}
	l.Seen = append(cloneRows(l.Seen), cloneRow(rowOfMsg(m)))
	p.leads[p.at] = l
	if !plainMost(p.n, len(l.Who)) {
		return
	}
	way, c, a := plainChoose(p.n, l.Seen)
	l.Cmd, l.Attr = c, a
	switch {
	case way != impl.WyAgain:
		p.accept(l)
	case p.row().Ballot > l.Ballot:
		delete(p.leads, p.at)
	default:
		p.propose(l.Ballot, c, plainJoin(a, p.attrFor(c)))
	}
}
