package tests

import (
	"slices"

	"loop.example/g00698/impl"
)

// What the document says of chapter 13, written out again in another way.

// plainIsOpen tells whether an instance of a good net is open for members.
func plainIsOpen(x impl.Net, members []int, at instance) bool {
	isKnown, isLacked := false, false
	for _, me := range members {
		isKnown = isKnown || plainKnows(x.Reps[me].Table, at)
		isLacked = isLacked || plainRow(x.Reps[me].Table, at).State != impl.RwCom
	}
	return isKnown && isLacked
}

func plainFirstOpen(x impl.Net, members []int) (int, instance, bool) {
	for _, me := range members {
		for _, at := range instancesOf(len(x.Reps)) {
			if plainIsOpen(x, members, at) && plainRow(x.Reps[me].Table, at).State != impl.RwCom {
				return me, at, true
			}
		}
	}
	return 0, instance{}, false
}

// plainTalk has what is between members in a list of its own. What it answers
// shares memory with the net, of which nothing is written to.
func plainTalk(x impl.Net, members []int) (impl.Net, int) {
	y := netOf(slices.Clone(x.Reps), nil, slices.Clone(x.Asked)...)
	var between []impl.Msg
	for _, m := range x.Bag {
		if slices.Contains(members, m.From) && slices.Contains(members, m.To) {
			between = append(between, m)
		} else {
			y.Bag = append(y.Bag, m)
		}
	}
	taken := 0
	for ; len(between) > 0 && taken < 20000; taken++ {
		m := between[0]
		between = between[1:]
		after, sent, ok := plainTake(y.Reps[m.To], m)
		if !ok {
			continue
		}
		y.Reps[m.To] = after
		for _, one := range sent {
			if slices.Contains(members, one.To) {
				between = append(between, one)
			}
		}
	}
	return y, taken
}

// plainBallots is what RecoverAt by me makes of a Ballot, again and again until
// it is above most, or as long as there is a greater one.
func plainBallots(ballot, me, most int) []int {
	var ballots []int
	for next, ok := plainNextBallot(ballot, me); ok && ballot <= most; next, ok = plainNextBallot(ballot, me) {
		ballot = next
		ballots = append(ballots, ballot)
	}
	return ballots
}

// plainRound is one round, and tells whether it could be done to its end. All
// ballots but the last two are passed over: they leave nothing behind.
func plainRound(x impl.Net, members []int, me int, at instance) (impl.Net, bool) {
	most := 0
	for _, other := range members {
		most = max(most, plainRow(x.Reps[other].Table, at).Ballot)
	}
	was := plainRow(x.Reps[me].Table, at)
	ballots := append([]int{was.Ballot}, plainBallots(was.Ballot, me, most)...)
	if len(ballots) == 1 {
		return x, false
	}
	y := netOf(slices.Clone(x.Reps), slices.Clone(x.Bag), slices.Clone(x.Asked)...)
	y.Reps[me] = cloneReplica(x.Reps[me])
	if before := ballots[len(ballots)-2]; before > was.Ballot {
		was.Ballot = before
		y.Reps[me].Table = withRow(y.Reps[me].Table, at, was)
	}
	after, sent, _ := plainRecover(y.Reps[me], at[0], at[1])
	y.Reps[me] = after
	if ballots[len(ballots)-1] <= most {
		return y, false
	}
	for _, m := range sent {
		if slices.Contains(members, m.To) {
			y.Bag = append(y.Bag, m)
		}
	}
	y, _ = plainTalk(y, members)
	return y, true
}

func plainHeal(x impl.Net, members []int, rounds int) impl.Healed {
	x, _ = plainTalk(x, members)
	for done := 0; ; done++ {
		me, at, isOpen := plainFirstOpen(x, members)
		if !isOpen || done == rounds {
			return impl.Healed{Net: x, Rounds: done, Done: !isOpen}
		}
		y, ok := plainRound(x, members, me, at)
		if !ok {
			return impl.Healed{Net: y, Rounds: done}
		}
		x = y
	}
}

func sameHealed(a, b impl.Healed) bool {
	return sameNet(a.Net, b.Net) && a.Rounds == b.Rounds && a.Done == b.Done
}

// healArgs is what the functions of chapter 13 are given.
type healArgs struct {
	n       int
	x       impl.Net
	members []int
	rounds  int
}

// healAnswers is what they answer: ok are those of FirstOpen, TalkAmong, HealNet
// and IsMajority.
type healAnswers struct {
	first  int
	at     instance
	talked impl.Net
	taken  int
	healed impl.Healed
	isMost bool
	ok     [4]bool
}

func (a healArgs) answers() healAnswers {
	var got healAnswers
	got.first, got.at[0], got.at[1], got.ok[0] = impl.FirstOpen(a.x, a.members)
	got.talked, got.taken, got.ok[1] = impl.TalkAmong(a.x, a.members)
	got.healed, got.ok[2] = impl.HealNet(a.x, a.members, a.rounds)
	got.isMost, got.ok[3] = impl.IsMajority(a.n, a.members)
	return got
}

// plainAnswers is the same as the plain functions tell it.
func (a healArgs) plainAnswers() healAnswers {
	var want healAnswers
	if slices.Contains(groups, a.n) && plainMembers(a.n, a.members) {
		want.isMost, want.ok[3] = plainMost(a.n, len(a.members)), true
	}
	if !plainGoodNet(a.x) || !plainMembers(len(a.x.Reps), a.members) {
		return want
	}
	want.first, want.at, want.ok[0] = plainFirstOpen(a.x, a.members)
	want.talked, want.taken = plainTalk(a.x, a.members)
	want.ok[1] = true
	if a.rounds >= 0 && a.rounds <= 60 {
		want.healed, want.ok[2] = plainHeal(a.x, a.members, a.rounds), true
	}
	return want
}

func (a healAnswers) same(b healAnswers) bool {
	return a.first == b.first && a.at == b.at && sameNet(a.talked, b.talked) && a.taken == b.taken &&
		sameHealed(a.healed, b.healed) && a.isMost == b.isMost && a.ok == b.ok
}

func (a healArgs) clone() healArgs {
	a.x, a.members = cloneNet(a.x), slices.Clone(a.members)
	return a
}

func (a healArgs) same(b healArgs) bool {
	return sameNet(a.x, b.x) && slices.Equal(a.members, b.members)
}
