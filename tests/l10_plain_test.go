package tests

import (
	"slices"

	"loop.example/g00698/impl"
)

// The codes of SafeIn. The last one shows in no net: what two replicas that
// agree both have ready, OrderIn puts in one order, whatever else they have.
const (
	codeSafe = iota
	codeUnlike
	codeUnasked
	codeLoose
	codeTurned
)

// plainAgree looks at any two replicas of a good net.
func plainAgree(x impl.Net) bool {
	for _, at := range instancesOf(len(x.Reps)) {
		for _, r := range x.Reps {
			for _, other := range x.Reps {
				a, b := plainRow(r.Table, at), plainRow(other.Table, at)
				if a.State == impl.RwCom && b.State == impl.RwCom && (a.Cmd != b.Cmd || !plainSame(a.Attr, b.Attr)) {
					return false
				}
			}
		}
	}
	return true
}

// plainSettled is the settled table of a good net that agrees.
func plainSettled(x impl.Net) impl.Table {
	settled := table(len(x.Reps))
	for _, at := range instancesOf(len(x.Reps)) {
		for _, r := range x.Reps {
			if of := plainRow(r.Table, at); of.State == impl.RwCom {
				settled = withRow(settled, at, com(of.Cmd, of.Attr.Seq, slices.Clone(of.Attr.Deps)...))
			}
		}
	}
	return settled
}

func plainAskedFor(x impl.Net) bool {
	for _, r := range x.Reps {
		for _, at := range plainCommitted(r.Table) {
			c := plainRow(r.Table, at).Cmd
			if c != (impl.Cmd{}) && !slices.Contains(x.Asked, askedOf(at[0], at[1], c)) {
				return false
			}
		}
	}
	return true
}

func plainOrdersAgree(x impl.Net) bool {
	settled := plainSettled(x)
	var orders [][]instance
	for _, r := range x.Reps {
		orders = append(orders, plainOrderIn(r.Table))
	}
	for i, order := range orders {
		for _, other := range orders[:i] {
			if !plainSameOrders(order, other, settled) {
				return false
			}
		}
	}
	return true
}

// plainSafe is the code of a good net.
func plainSafe(x impl.Net) int {
	switch {
	case !plainAgree(x):
		return codeUnlike
	case !plainAskedFor(x):
		return codeUnasked
	case !plainHolds(plainSettled(x)):
		return codeLoose
	case !plainOrdersAgree(x):
		return codeTurned
	}
	return codeSafe
}

func plainMembers(n int, members []int) bool {
	for i, member := range members {
		if !isBelow(n, member) || i > 0 && member <= members[i-1] {
			return false
		}
	}
	return len(members) > 0
}

// plainFinished looks at each instance and each two members of a good net.
func plainFinished(x impl.Net, members []int) bool {
	for _, at := range instancesOf(len(x.Reps)) {
		for _, knows := range members {
			for _, lacks := range members {
				if plainKnows(x.Reps[knows].Table, at) && plainRow(x.Reps[lacks].Table, at).State != impl.RwCom {
					return false
				}
			}
		}
	}
	return true
}

// plainKnows tells whether a table has a row of an instance, or a RwCom one the
// Attr of which hangs on it.
func plainKnows(x impl.Table, at instance) bool {
	if len(x.Rows[at[0]]) >= at[1] {
		return true
	}
	return slices.ContainsFunc(plainCommitted(x), func(of instance) bool { return plainHangs(x, of, at) })
}

// safeArgs is what the functions of chapter 10 are given.
type safeArgs struct {
	x       impl.Net
	members []int
}

// safeAnswers is what all of them answer of it: is and ok are those of AgreeIn,
// AskedFor, OrdersAgree and FinishedIn, and then ok those of SettledOf and
// SafeIn.
type safeAnswers struct {
	is      [4]bool
	ok      [6]bool
	settled impl.Table
	code    int
}

func (a safeArgs) answers() safeAnswers {
	var got safeAnswers
	got.is[0], got.ok[0] = impl.AgreeIn(a.x)
	got.is[1], got.ok[1] = impl.AskedFor(a.x)
	got.is[2], got.ok[2] = impl.OrdersAgree(a.x)
	got.is[3], got.ok[3] = impl.FinishedIn(a.x, a.members)
	got.settled, got.ok[4] = impl.SettledOf(a.x)
	got.code, got.ok[5] = impl.SafeIn(a.x)
	return got
}

// plainAnswers is the same as the plain functions tell it.
func (a safeArgs) plainAnswers() safeAnswers {
	var want safeAnswers
	if !plainGoodNet(a.x) {
		return want
	}
	agree, areMembers := plainAgree(a.x), plainMembers(len(a.x.Reps), a.members)
	want.is = [4]bool{agree, plainAskedFor(a.x), agree && plainOrdersAgree(a.x), areMembers && plainFinished(a.x, a.members)}
	want.ok = [6]bool{true, true, agree, areMembers, agree, true}
	if agree {
		want.settled = plainSettled(a.x)
	}
	want.code = plainSafe(a.x)
	return want
}

func (a safeAnswers) same(b safeAnswers) bool {
	return a.is == b.is && a.ok == b.ok && a.code == b.code && sameTable(a.settled, b.settled)
}

func (a safeArgs) clone() safeArgs {
	return safeArgs{cloneNet(a.x), slices.Clone(a.members)}
}

func (a safeArgs) same(b safeArgs) bool {
	return sameNet(a.x, b.x) && slices.Equal(a.members, b.members)
}
