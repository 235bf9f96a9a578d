package tests

import (
	"math"
	"slices"
	"testing"

	"loop.example/g00698/impl"
)

// fullNet is a good net, each list of which has some members.
func fullNet(n int) impl.Net {
	m := mixer(n)
	x := netOf(nil, fullMsgs(n), askedOf(n-1, 6, asked), askedOf(0, 1, moved), askedOf(1, 3, other))
	for me := range n {
		x.Reps = append(x.Reps, m.replicaOf(n, me))
	}
	x.Reps[1] = fullReplica(n)
	return x
}

// net is a good one of which few parts fit to each other. In some cases its Bag
// is nearly full.
func (m *mixer) net(n int) impl.Net {
	var x impl.Net
	for me := range n {
		r := m.replicaOf(n, me)
		if m.next(3) == 0 {
			// Most lists of those above are long.
			r = replica(me, table(n, nil, []impl.Row{m.row(n, 4)}))
		}
		x.Reps = append(x.Reps, r)
	}
	for range m.pick(0, 1, 2, 5, 10, 20, 40, 75, 76, 77, 78, 79, 80) {
		x.Bag = append(x.Bag, m.msgTo(x.Reps[m.next(n)]))
	}
	for _, place := range m.mixed(n * impl.MaxRow)[:m.pick(0, 1, 3, 6, n*impl.MaxRow)] {
		at := instancesOf(n)[place]
		x.Asked = append(x.Asked, askedOf(at[0], at[1], mixedCmds[1+m.next(len(mixedCmds)-1)]))
	}
	return x
}

func someNets(n, count int) []impl.Net {
	m := mixer(90 + n)
	nets := []impl.Net{emptyNet(n), fullNet(n)}
	for range count {
		nets = append(nets, m.net(n))
	}
	return nets
}

// netChanges gathers nets that differ from a good one in few fields.
type netChanges struct {
	n    int
	from impl.Net
	all  []impl.Net
}

func (c *netChanges) add(change func(*impl.Net)) {
	x := cloneNet(c.from)
	change(&x)
	c.all = append(c.all, x)
}

// addMsg changes the first message, a middle one and the last one.
func (c *netChanges) addMsg(m impl.Msg) {
	last := len(c.from.Bag) - 1
	for _, place := range []int{0, last / 2, last} {
		c.add(func(x *impl.Net) { x.Bag[place] = cloneMsg(m) })
	}
}

// addAsked changes each of what was asked alone.
func (c *netChanges) addAsked(change func(*impl.Asked)) {
	for place := range c.from.Asked {
		c.add(func(x *impl.Net) { change(&x.Asked[place]) })
	}
}

// goodNets is nets with what may be in a good one, but seldom is.
func goodNets(n int) []impl.Net {
	c := netChanges{n: n, from: fullNet(n)}
	c.add(func(*impl.Net) {})
	c.add(func(x *impl.Net) { x.Bag, x.Asked = nil, nil })
	c.add(func(x *impl.Net) { x.Bag, x.Asked = []impl.Msg{}, []impl.Asked{} })
	for me := range n {
		c.add(func(x *impl.Net) { x.Reps[me] = replica(me, table(n)) })
		c.add(func(x *impl.Net) { x.Reps[me].Table = fullTable(n, emptyRow(n)) })
		c.add(func(x *impl.Net) { x.Reps[me].Leads = nil })
	}
	for _, count := range []int{1, 79, 80} {
		c.add(func(x *impl.Net) { x.Bag = slices.Repeat(x.Bag[:1], count) })
		for _, m := range fullMsgs(n) {
			c.add(func(x *impl.Net) { x.Bag = append(slices.Repeat(x.Bag[:1], count-1), m) })
		}
	}
	for _, at := range instancesOf(n) {
		c.add(func(x *impl.Net) { x.Asked = []impl.Asked{askedOf(at[0], at[1], asked)} })
	}
	for _, cmd := range someCmds([]int{1, 999}, []int{1, 1000})[1:] {
		c.addAsked(func(one *impl.Asked) { one.Cmd = cmd })
	}
	// All instances were asked for, the last one first, and each the same.
	c.add(func(x *impl.Net) {
		x.Asked = nil
		for _, at := range slices.Backward(instancesOf(n)) {
			x.Asked = append(x.Asked, askedOf(at[0], at[1], asked))
		}
	})
	return c.all
}

// badNets is nets of which each is bad, most of them in one thing.
func badNets(n int) []impl.Net {
	c := netChanges{n: n, from: fullNet(n)}
	c.addBadGroups()
	c.addBadReplicas()
	c.addBadBags()
	c.addBadAsked()
	return append(c.all, impl.Net{}, netOf([]impl.Replica{}, []impl.Msg{}))
}

func (c *netChanges) addBadGroups() {
	for count := range 9 {
		if count == c.n {
			continue
		}
		c.add(func(x *impl.Net) {
			x.Bag, x.Asked = nil, nil
			x.Reps = append(x.Reps, replica(c.n, table(c.n)), replica(c.n+1, table(c.n)), replica(c.n+2, table(c.n)), replica(7, table(c.n)))[:count]
		})
		// Each one is good, but not of as many as there are.
		for _, of := range groups {
			if count != of {
				var reps []impl.Replica
				for me := range count {
					reps = append(reps, replica(min(me, of-1), table(of)))
				}
				c.all = append(c.all, netOf(reps, nil))
			}
		}
	}
	c.add(func(x *impl.Net) { x.Reps = slices.Repeat(x.Reps, 200) })
	c.add(func(x *impl.Net) { x.Reps = make([]impl.Replica, 1000) })
	c.add(func(x *impl.Net) { x.Reps = make([]impl.Replica, c.n) })
	c.add(func(x *impl.Net) { x.Reps = nil })
	// The replicas are of another group than the messages.
	c.add(func(x *impl.Net) { x.Reps, x.Asked = emptyNet(8-c.n).Reps, nil })
	c.add(func(x *impl.Net) { x.Bag, x.Asked = fullMsgs(8-c.n), nil })
}

func (c *netChanges) addBadReplicas() {
	for me := range c.n {
		for _, other := range []int{math.MinInt, -1, 0, 1, 2, 3, 4, 5, me + 1<<32, math.MaxInt} {
			if other != me {
				c.add(func(x *impl.Net) { x.Reps[me].Me = other })
				c.add(func(x *impl.Net) { x.Reps[me] = replica(other, table(c.n)) })
			}
		}
		c.add(func(x *impl.Net) { x.Reps[me] = replica(me, table(8-c.n)) })
		c.add(func(x *impl.Net) { x.Reps[me], x.Bag, x.Asked = replica(me, table(8-c.n)), nil, nil })
		c.add(func(x *impl.Net) { x.Reps[me], x.Reps[(me+1)%c.n] = x.Reps[(me+1)%c.n], x.Reps[me] })
		c.add(func(x *impl.Net) { x.Reps[me] = impl.Replica{} })
		c.add(func(x *impl.Net) { x.Reps[me].Table.N = 8 - c.n })
		c.add(func(x *impl.Net) { x.Reps[me].Table.Rows = x.Reps[me].Table.Rows[1:] })
		c.add(func(x *impl.Net) { x.Reps[me].Table.Rows[0] = slices.Repeat([]impl.Row{emptyRow(c.n)}, 7) })
		c.add(func(x *impl.Net) { x.Reps[me].Leads[0].Phase = 4 })
		c.add(func(x *impl.Net) { x.Reps[me].Leads[0].Who = nil })
	}
	for i, r := range badReplicas(c.n) {
		if i%5 == 0 {
			c.add(func(x *impl.Net) { x.Reps[1] = cloneReplica(r) })
		}
	}
	c.add(func(x *impl.Net) { slices.Reverse(x.Reps) })
}

func (c *netChanges) addBadBags() {
	for _, count := range []int{81, 82, 160, 1000} {
		c.add(func(x *impl.Net) { x.Bag = slices.Repeat(x.Bag[:1], count) })
	}
	for i, m := range badMsgs(c.n) {
		if i%7 == 0 {
			c.addMsg(m)
		}
	}
	for _, m := range fullMsgs(8 - c.n) {
		c.addMsg(m)
	}
	c.add(func(x *impl.Net) { x.Bag = make([]impl.Msg, 3) })
	c.add(func(x *impl.Net) { x.Bag = append(slices.Repeat(x.Bag[:1], 79), impl.Msg{}) })
}

func (c *netChanges) addBadAsked() {
	for _, at := range badInstances(c.n) {
		c.addAsked(func(one *impl.Asked) { one.Rep, one.No = at[0], at[1] })
	}
	for _, cmd := range append(badCmds(), impl.Cmd{}) {
		c.addAsked(func(one *impl.Asked) { one.Cmd = cmd })
	}
	for i := range c.from.Asked {
		for j := range c.from.Asked {
			if i != j {
				c.add(func(x *impl.Net) { x.Asked[i].Rep, x.Asked[i].No = x.Asked[j].Rep, x.Asked[j].No })
				c.add(func(x *impl.Net) { x.Asked[i] = x.Asked[j] })
			}
		}
		c.add(func(x *impl.Net) { x.Asked = append(x.Asked, x.Asked[i]) })
	}
	for _, at := range instancesOf(c.n) {
		c.add(func(x *impl.Net) {
			x.Asked = []impl.Asked{askedOf(at[0], at[1], asked), askedOf(at[0], at[1], asked)}
		})
		c.add(func(x *impl.Net) {
			x.Asked = nil
			for _, of := range instancesOf(c.n) {
				x.Asked = append(x.Asked, askedOf(of[0], of[1], asked))
			}
			x.Asked = append(x.Asked, askedOf(at[0], at[1], other))
		})
	}
	c.add(func(x *impl.Net) { x.Asked = make([]impl.Asked, 1) })
	c.add(func(x *impl.Net) { x.Asked = slices.Repeat(x.Asked, 1000) })
}

func TestNetConstants(t *testing.T) {
	if !slices.Equal(netKinds, []int{1, 2, 3, 4, 5, 6, 7}) || impl.MaxBag != 80 || impl.MaxSteps != 100 {
		t.Error("constants:", netKinds, impl.MaxBag, impl.MaxSteps)
	}
}

func TestNewNet(t *testing.T) {
	for _, n := range groups {
		if got, ok := impl.NewNet(n); !ok || !sameNet(got, emptyNet(n)) || !impl.GoodNet(got) {
			t.Error("NewNet", n, got, ok)
		}
	}
	for _, n := range noGroups {
		if got, ok := impl.NewNet(n); ok || !isZeroNet(got) {
			t.Error("NewNet", n, got, ok)
		}
	}
}

func TestGoodNet(t *testing.T) {
	for _, n := range groups {
		for _, x := range append(someNets(n, 500), goodNets(n)...) {
			if !plainGoodNet(x) || !impl.GoodNet(x) {
				t.Error("not good:", x)
			}
		}
	}
}

func TestGoodNetInvalid(t *testing.T) {
	for _, n := range groups {
		for i, x := range badNets(n) {
			if plainGoodNet(x) || impl.GoodNet(x) {
				t.Error("good:", n, i, x)
			}
		}
	}
}

func checkBagFor(t *testing.T, x impl.Net, to int, want ...int) {
	t.Helper()
	if got, ok := impl.BagFor(x, to); !ok || !slices.Equal(got, want) {
		t.Error("BagFor", x.Bag, to, got, ok, "not", want)
	}
}

func checkNoBag(t *testing.T, x impl.Net, to int) {
	t.Helper()
	if got, ok := impl.BagFor(x, to); ok || len(got) != 0 {
		t.Error("BagFor", x, to, got, ok)
	}
}

func TestBagFor(t *testing.T) {
	for _, n := range groups {
		x := emptyNet(n)
		for to := range n {
			checkBagFor(t, x, to)
		}
		// From 0 to all others, and then back from all of them.
		for rep := range n - 1 {
			x.Bag = append(x.Bag, msg(impl.MsAccOk, 0, rep+1, 0, 1, 8, impl.Cmd{}, emptyRow(n).Attr))
		}
		for rep := range n - 1 {
			checkBagFor(t, x, rep+1, rep)
			x.Bag = append(x.Bag, msg(impl.MsAccOk, rep+1, 0, rep+1, 1, 8, impl.Cmd{}, emptyRow(n).Attr))
		}
		checkBagFor(t, x, 0, numbersBelow(2 * n)[n-1:2*n-2]...)
		for rep := range n - 1 {
			checkBagFor(t, x, rep+1, rep)
		}
		// All of them to one, and none to any other one.
		x.Bag = slices.Repeat(x.Bag[2*n-3:], 80)
		checkBagFor(t, x, 0, numbersBelow(80)...)
		for rep := range n - 1 {
			checkBagFor(t, x, rep+1)
		}
		x.Bag[79] = fullMsgs(n)[0]
		checkBagFor(t, x, 1, 79)
		checkBagFor(t, x, 0, numbersBelow(79)...)
	}
}

func TestBagForOfAll(t *testing.T) {
	for _, n := range groups {
		for _, x := range append(someNets(n, 500), goodNets(n)...) {
			for to := range n {
				want, _ := plainBagFor(x, to)
				checkBagFor(t, x, to, want...)
			}
		}
	}
}

func TestBagForInvalid(t *testing.T) {
	for _, n := range groups {
		for _, to := range []int{math.MinInt, -5, -1, n, n + 1, 1 << 32, 1 + 1<<32, math.MaxInt} {
			for _, x := range []impl.Net{emptyNet(n), fullNet(n)} {
				checkNoBag(t, x, to)
			}
		}
		for i, x := range badNets(n) {
			for to := range n {
				checkNoBag(t, x, (to+i)%n)
			}
		}
	}
}
