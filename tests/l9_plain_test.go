package tests

import (
	"fmt"
	"slices"

	"loop.example/g00698/impl"
)

var netKinds = []int{impl.NtSubmit, impl.NtTake, impl.NtLose, impl.NtTwice, impl.NtRecover, impl.NtHurry, impl.NtCrash}

func submitAt(rep int, c impl.Cmd) impl.Step {
	return impl.Step{Kind: impl.NtSubmit, At: rep, Cmd: c}
}

// stepAt is a step of which a kind names no more than At.
func stepAt(kind, at int) impl.Step {
	return impl.Step{Kind: kind, At: at}
}

// stepOf is a step of a replica and an instance.
func stepOf(kind, at, rep, no int) impl.Step {
	return impl.Step{Kind: kind, At: at, Rep: rep, No: no}
}

func askedOf(rep, no int, c impl.Cmd) impl.Asked {
	return impl.Asked{Rep: rep, No: no, Cmd: c}
}

// netOf is a net of these replicas.
func netOf(reps []impl.Replica, bag []impl.Msg, asked ...impl.Asked) impl.Net {
	return impl.Net{Reps: reps, Bag: bag, Asked: asked}
}

// emptyNet is a net in which nothing was done.
func emptyNet(n int) impl.Net {
	var x impl.Net
	for me := range n {
		x.Reps = append(x.Reps, replica(me, table(n)))
	}
	return x
}

func cloneMsgs(msgs []impl.Msg) []impl.Msg {
	var clone []impl.Msg
	for _, m := range msgs {
		clone = append(clone, cloneMsg(m))
	}
	return clone
}

func cloneNet(x impl.Net) impl.Net {
	clone := netOf(nil, cloneMsgs(x.Bag), slices.Clone(x.Asked)...)
	for _, r := range x.Reps {
		clone.Reps = append(clone.Reps, cloneReplica(r))
	}
	return clone
}

func sameNet(a, b impl.Net) bool {
	return slices.EqualFunc(a.Reps, b.Reps, sameReplica) && sameMsgs(a.Bag, b.Bag) && slices.Equal(a.Asked, b.Asked)
}

func isZeroNet(x impl.Net) bool {
	return len(x.Reps) == 0 && len(x.Bag) == 0 && len(x.Asked) == 0
}

// linesOf is all that a good net has, in words: the states of its replicas, its
// bag, and what was asked.
func linesOf(x impl.Net) []string {
	var lines []string
	for me, r := range x.Reps {
		for _, line := range stateOf(r) {
			lines = append(lines, fmt.Sprintf("at %d: %s", me, line))
		}
	}
	for _, text := range textsOf(x.Bag) {
		lines = append(lines, "bag: "+text)
	}
	for _, one := range x.Asked {
		lines = append(lines, fmt.Sprintf("asked %d.%d: %s", one.Rep, one.No, plainText(one.Cmd)))
	}
	return lines
}

// plainGoodNet tells rule by rule whether a net is good.
func plainGoodNet(x impl.Net) bool {
	n := len(x.Reps)
	if !slices.Contains(groups, n) || len(x.Bag) > 80 {
		return false
	}
	for i, r := range x.Reps {
		if !plainGoodReplica(r) || r.Me != i || r.Table.N != n {
			return false
		}
	}
	for _, m := range x.Bag {
		if !plainGoodMsg(n, m) {
			return false
		}
	}
	for i, one := range x.Asked {
		if !slices.Contains(instancesOf(n), instance{one.Rep, one.No}) || plainIsAsked(x.Asked[:i], one.Rep, one.No) {
			return false
		}
		if !impl.GoodCmd(one.Cmd) || one.Cmd == (impl.Cmd{}) {
			return false
		}
	}
	return true
}

func plainIsAsked(asked []impl.Asked, rep, no int) bool {
	return slices.ContainsFunc(asked, func(one impl.Asked) bool { return one.Rep == rep && one.No == no })
}

// plainNamed tells whether the fields that a step's kind does not name are 0
// and CmNone; of a kind that is none, it is false.
func plainNamed(s impl.Step) bool {
	switch s.Kind {
	case impl.NtSubmit:
		return s.Rep == 0 && s.No == 0
	case impl.NtTake, impl.NtLose, impl.NtTwice, impl.NtCrash:
		return s.Rep == 0 && s.No == 0 && s.Cmd == impl.Cmd{}
	case impl.NtRecover, impl.NtHurry:
		return s.Cmd == impl.Cmd{}
	}
	return false
}

// plainStep is StepNet, by what the plain functions of chapter 8 tell.
func plainStep(x impl.Net, s impl.Step) (impl.Net, bool) {
	if !plainGoodNet(x) {
		return impl.Net{}, false
	}
	return plainGoodStep(x, s)
}

// plainGoodStep is the same of a net that is known to be good. What it answers
// shares memory with that net, of which nothing is written to.
func plainGoodStep(x impl.Net, s impl.Step) (impl.Net, bool) {
	if !plainNamed(s) {
		return impl.Net{}, false
	}
	y, done := netOf(slices.Clone(x.Reps), slices.Clone(x.Bag), slices.Clone(x.Asked)...), false
	switch s.Kind {
	case impl.NtTake, impl.NtLose, impl.NtTwice:
		done = isBelow(len(x.Bag), s.At) && plainBagStep(&y, s)
	default:
		done = isBelow(len(x.Reps), s.At) && plainReplicaStep(&y, s)
	}
	if !done || len(y.Bag) > 80 {
		return impl.Net{}, false
	}
	return y, true
}

func plainBagStep(y *impl.Net, s impl.Step) bool {
	m := y.Bag[s.At]
	if s.Kind == impl.NtTwice {
		y.Bag = append(y.Bag, m)
		return true
	}
	y.Bag = slices.Delete(y.Bag, s.At, s.At+1)
	if s.Kind == impl.NtLose {
		return true
	}
	after, sent, ok := plainTake(y.Reps[m.To], m)
	y.Reps[m.To], y.Bag = after, append(y.Bag, sent...)
	return ok
}

func plainReplicaStep(y *impl.Net, s impl.Step) bool {
	var sent []impl.Msg
	var ok bool
	r := y.Reps[s.At]
	switch s.Kind {
	case impl.NtSubmit:
		no := len(r.Table.Rows[s.At]) + 1
		if plainIsAsked(y.Asked, s.At, no) {
			return false
		}
		y.Asked = append(y.Asked, askedOf(s.At, no, s.Cmd))
		y.Reps[s.At], sent, ok = plainSubmit(r, s.Cmd)
	case impl.NtRecover:
		y.Reps[s.At], sent, ok = plainRecover(r, s.Rep, s.No)
	case impl.NtHurry:
		y.Reps[s.At], sent, ok = plainHurry(r, s.Rep, s.No)
	case impl.NtCrash:
		y.Reps[s.At], ok = plainCrash(r)
	}
	y.Bag = append(y.Bag, sent...)
	return ok
}

func plainPlay(n int, l []impl.Step) (impl.Net, []bool, bool) {
	if !slices.Contains(groups, n) || len(l) > 100 {
		return impl.Net{}, nil, false
	}
	x, done := emptyNet(n), []bool(nil)
	for _, s := range l {
		y, ok := plainGoodStep(x, s)
		if ok {
			x = y
		}
		done = append(done, ok)
	}
	return x, done, true
}

func plainBagFor(x impl.Net, to int) ([]int, bool) {
	if !plainGoodNet(x) || !isBelow(len(x.Reps), to) {
		return nil, false
	}
	var numbers []int
	for i, m := range x.Bag {
		if m.To == to {
			numbers = append(numbers, i)
		}
	}
	return numbers, true
}

func plainDeliver(x impl.Net) (impl.Net, int, bool) {
	if !plainGoodNet(x) {
		return impl.Net{}, 0, false
	}
	taken := 0
	for ; taken < 2000 && len(x.Bag) > 0; taken++ {
		y, ok := plainGoodStep(x, stepAt(impl.NtTake, 0))
		if !ok {
			break
		}
		x = y
	}
	return x, taken, true
}
