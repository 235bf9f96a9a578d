package tests

import (
	"slices"
	"testing"

	"loop.example/g00698/impl"
)

func checkOrderIn(t *testing.T, x impl.Table, want []instance) {
	t.Helper()
	if got, ok := impl.OrderIn(x); !ok || !sameLists(got, pairsOf(want)) {
		t.Error("OrderIn", x, got, ok, "not", want)
	}
}

// plainOrderIn is told by the graph of what is ready alone.
func plainOrderIn(x impl.Table) []instance {
	points := plainReady(x)
	var key []int
	for _, at := range points {
		key = append(key, 100*plainRow(x, at).Attr.Seq+10*at[0]+at[1])
	}
	var order []instance
	for _, point := range plainOrder(plainLeads(plainGraph(x, points)), key) {
		order = append(order, points[point])
	}
	return order
}

func TestOrderIn(t *testing.T) {
	eachExecTable(func(x impl.Table) {
		checkOrderIn(t, x, plainOrderIn(x))
	})
}

// TestOrderInOfRings has rings of which each point but the first two have Seqs
// that are alike.
func TestOrderInOfRings(t *testing.T) {
	for _, n := range groups {
		all := instancesOf(n)
		for i, first := range all {
			for j, second := range all {
				x := fullTable(n, com(read(1, 0), 7, slices.Repeat([]int{impl.MaxRow}, n)...))
				want := slices.DeleteFunc(slices.Clone(all), func(at instance) bool { return at == first || at == second })
				x.Rows[first[0]][first[1]-1].Attr.Seq = 6
				x.Rows[second[0]][second[1]-1].Attr.Seq = 8
				if i == j {
					want = append(want, second)
				} else {
					want = append(append([]instance{first}, want...), second)
				}
				checkOrderIn(t, x, want)
			}
		}
	}
}

// TestOrderInIsOrderOfEmptied compares with OrderOf of GraphOf a table in which
// the rows that are not ready are empty, by the functions themselves.
func TestOrderInIsOrderOfEmptied(t *testing.T) {
	eachExecTable(func(x impl.Table) {
		ready, _ := impl.ReadyIn(x)
		emptied := cloneTable(x)
		for rep, rows := range emptied.Rows {
			for i := range rows {
				if !slices.ContainsFunc(ready, func(pair []int) bool { return slices.Equal(pair, []int{rep, i + 1}) }) {
					rows[i] = emptyRow(x.N)
				}
			}
		}
		points, graph, _ := impl.GraphOf(emptied)
		var key []int
		for _, pair := range points {
			r, _ := impl.RowAt(x, pair[0], pair[1])
			key = append(key, 100*r.Attr.Seq+10*pair[0]+pair[1])
		}
		order, ok := impl.OrderOf(graph, key)
		var want [][]int
		for _, point := range order {
			want = append(want, points[point])
		}
		if got, _ := impl.OrderIn(x); !ok || !sameLists(points, ready) || !sameLists(got, want) {
			t.Error("OrderIn", x, got, "not", want, ok)
		}
	})
}

// orderTable has rows that interfere, some that do not, and some of which the
// Cmd counts, though they are not committed.
func orderTable() impl.Table {
	acc := preRow(read(5, 3), 1, 0, 0, 0)
	acc.State = impl.RwAcc
	return table(3,
		[]impl.Row{com(move(1, 0, 1, 5), 1, 0, 0, 0), com(read(2, 0), 2, 0, 0, 0), preRow(read(3, 1), 3, 0, 0, 0)},
		[]impl.Row{com(move(4, 2, 3, 5), 1, 0, 0, 0), acc, com(impl.Cmd{}, 9, 0, 0, 0)},
		[]impl.Row{emptyRow(3), com(move(6, 1, 2, 1), 1, 6, 6, 6)},
	)
}

func checkSameOrders(t *testing.T, a, b []instance, x impl.Table, want bool) {
	t.Helper()
	if got, ok := impl.SameOrders(pairsOf(a), pairsOf(b), x); !ok || got != want {
		t.Error("SameOrders", a, b, x, got, ok, "not", want)
	}
}

func TestSameOrdersWrittenOut(t *testing.T) {
	x := orderTable()
	move01, read0, read1 := instance{0, 1}, instance{0, 2}, instance{0, 3}
	move23, read3, nothing := instance{1, 1}, instance{1, 2}, instance{1, 3}
	empty, move12, behind := instance{2, 1}, instance{2, 2}, instance{2, 6}
	for _, c := range []struct {
		name string
		a, b []instance
		want bool
	}{
		{"no lists", nil, nil, true},
		{"one list", []instance{move01, read0}, nil, true},
		{"one of each", []instance{move01}, []instance{read0}, true},
		{"nothing in common", []instance{move01, read1}, []instance{read0, move12}, true},
		{"one in common", []instance{move01, read0}, []instance{move12, move01}, true},
		{"all in common, in the same order", []instance{move01, read0}, []instance{move01, read0}, true},
		{"all in common, turned", []instance{move01, read0}, []instance{read0, move01}, false},
		{"turned, but one is in one list alone", []instance{move01, read0}, []instance{read0}, true},
		{"turned, no common account", []instance{move01, move23}, []instance{move23, move01}, true},
		{"turned, reads of unlike accounts", []instance{read0, read1}, []instance{read1, read0}, true},
		{"turned, a command that does nothing", []instance{nothing, move12}, []instance{move12, nothing}, true},
		{"turned, an empty row", []instance{empty, move12}, []instance{move12, empty}, true},
		{"turned, an instance behind the end", []instance{behind, move12}, []instance{move12, behind}, true},
		{"turned, a row of RwPre", []instance{read1, move12}, []instance{move12, read1}, false},
		{"turned, a row of RwAcc", []instance{read3, move23}, []instance{move23, read3}, false},
		{"some in common, in the same order", []instance{move01, read3, read0}, []instance{move12, move01, nothing, read0}, true},
		{"some in common, turned", []instance{read0, read3, move01}, []instance{move12, move01, nothing, read0}, false},
		{"the last two of three turned", []instance{move23, move01, read0}, []instance{move23, read0, move01}, false},
		{"the first two of three turned", []instance{read0, move01, move23}, []instance{move01, read0, move23}, false},
		{"the ends of three turned", []instance{move01, read3, read0}, []instance{read0, read3, move01}, false},
		{"turned by way of a third one alone", []instance{move01, move12, move23}, []instance{move01, move12, move23}, true},
		{"a third one away", []instance{read0, read1, move23}, []instance{move23, read1, read0}, true},
		{"all turned that may be", []instance{move01, read0, move23, read3}, []instance{move23, move01, read3, read0}, true},
	} {
		checkSameOrders(t, c.a, c.b, x, c.want)
		checkSameOrders(t, c.b, c.a, x, c.want)
		if t.Failed() {
			t.Fatal(c.name)
		}
	}
}

// plainSameOrders looks at any two instances there are.
func plainSameOrders(a, b []instance, x impl.Table) bool {
	for _, first := range instancesOf(x.N) {
		for _, second := range instancesOf(x.N) {
			i, j := slices.Index(a, first), slices.Index(a, second)
			k, l := slices.Index(b, first), slices.Index(b, second)
			if min(i, j, k, l) >= 0 && (i < j) != (k < l) && plainInterfere(plainRow(x, first).Cmd, plainRow(x, second).Cmd) && first != second {
				return false
			}
		}
	}
	return true
}

func TestSameOrdersOfAllOrders(t *testing.T) {
	x := orderTable()
	few := []instance{{0, 1}, {0, 2}, {1, 1}, {2, 2}}
	eachOrder(numbersBelow(4), 0, func(first []int) {
		eachOrder(numbersBelow(4), 0, func(second []int) {
			var a, b []instance
			for i := range few {
				a, b = append(a, few[first[i]]), append(b, few[second[i]])
			}
			for i := range few {
				for j := range few {
					checkSameOrders(t, a[i:], b[:j+1], x, plainSameOrders(a[i:], b[:j+1], x))
				}
			}
		})
	})
}

// mixedInstances is some of the instances of a group of n, in an order of no
// meaning.
func (m *mixer) mixedInstances(n int) []instance {
	all := instancesOf(n)
	var list []instance
	for _, i := range m.mixed(len(all)) {
		list = append(list, all[i])
	}
	return list[:m.next(len(list)+1)]
}

func TestSameOrdersOfMixedLists(t *testing.T) {
	m := mixer(23)
	same, turned := 0, 0
	for _, n := range groups {
		for _, x := range execTables(n) {
			for range 4 {
				a, b := m.mixedInstances(n), m.mixedInstances(n)
				checkSameOrders(t, a, b, x, plainSameOrders(a, b, x))
				// Two that change places are often turned round, not always.
				b = slices.Clone(a)
				if len(b) > 1 {
					i := m.next(len(b) - 1)
					b[i], b[i+1] = b[i+1], b[i]
				}
				want := plainSameOrders(a, b, x)
				checkSameOrders(t, a, b, x, want)
				if want {
					same++
				} else {
					turned++
				}
			}
		}
	}
	if min(same, turned) < 100 {
		t.Error("few lists with one of both answers:", same, turned)
	}
}

func TestSameOrdersInvalid(t *testing.T) {
	check := func(a, b [][]int, x impl.Table) {
		t.Helper()
		for _, lists := range [][2][][]int{{a, b}, {b, a}} {
			if got, ok := impl.SameOrders(lists[0], lists[1], x); ok || got {
				t.Error("SameOrders", lists, x, got, ok)
			}
		}
	}
	for _, n := range groups {
		x := inTurns(n)
		good := pairsOf([]instance{{2, 6}, {0, 1}, {1, 1}, {0, 6}})
		for _, bad := range badPairs(n) {
			for at := range 5 {
				list := slices.Insert(slices.Clone(good), at, bad)
				check(list, good, x)
				check(list, nil, x)
				check(list, list, x)
			}
		}
		for _, at := range instancesOf(n) {
			check([][]int{pairOf(at), pairOf(at)}, good, x)
			check(append(pairsOf(instancesOf(n)), pairOf(at)), nil, x)
		}
		check(append(slices.Clone(good), good[0]), good, x)
		check(append(slices.Clone(good), good[1]), good, x)
		check(slices.Repeat(good, 1000), nil, x)
		check(slices.Repeat([][]int{{0, 1}}, 3), nil, table(n))
	}
	// What five replicas have, three need not.
	check(pairsOf([]instance{{3, 1}}), nil, table(3))
	check(pairsOf([]instance{{4, 1}}), nil, table(3))
	for _, x := range badTables() {
		check(nil, nil, x)
		check(pairsOf([]instance{{0, 1}, {1, 1}}), pairsOf([]instance{{1, 1}, {0, 1}}), x)
	}
}

// smaller is a table in which one in rare of the rows is not committed: empty,
// cut off, or of another State, with whatever else.
func (m *mixer) smaller(x impl.Table, rare int) impl.Table {
	less := cloneTable(x)
	for rep := range less.Rows {
		for i := range less.Rows[rep] {
			if m.next(rare) > 0 {
				continue
			}
			switch m.next(3) {
			case 0:
				less.Rows[rep][i] = emptyRow(x.N)
			case 1:
				less.Rows[rep][i].State = states[m.next(2)]
				less.Rows[rep][i].Cmd = read(5, m.next(4))
			case 2:
				less.Rows[rep][i].State = states[m.next(2)]
				less.Rows[rep][i].Attr = attr(m.next(9), make([]int, x.N)...)
			}
		}
		if m.next(rare) == 0 && len(less.Rows[rep]) > 0 {
			less.Rows[rep] = less.Rows[rep][:len(less.Rows[rep])-1]
		}
	}
	return less
}

// checkPromise6 reports where two interfering instances of which one hangs on
// the other are not executed in the same order from both tables. It tells how
// many such there are.
func checkPromise6(t *testing.T, x, less impl.Table) int {
	t.Helper()
	all, isAll := impl.OrderIn(x)
	some, isSome := impl.OrderIn(less)
	if !isAll || !isSome {
		t.Error("OrderIn tells false:", x, less)
	}
	placeOf := func(pair []int) int {
		return slices.IndexFunc(all, func(other []int) bool { return slices.Equal(pair, other) })
	}
	count := 0
	for i, ahead := range some {
		for _, behind := range some[i+1:] {
			one, other := instance(ahead), instance(behind)
			interfere := plainInterfere(plainRow(x, one).Cmd, plainRow(x, other).Cmd)
			if !interfere || !plainHangs(x, one, other) && !plainHangs(x, other, one) {
				continue
			}
			count++
			if placeOf(ahead) < 0 || placeOf(ahead) > placeOf(behind) {
				t.Error("not in the same order:", ahead, behind, x, less, all, some)
			}
		}
	}
	if holds, _ := impl.DepsHold(x); holds {
		if same, ok := impl.SameOrders(some, all, x); !ok || !same {
			t.Error("SameOrders", some, all, x, same, ok)
		}
	}
	return count
}

func TestPromise6SmallerTables(t *testing.T) {
	m := mixer(29)
	count := 0
	for _, n := range groups {
		for _, x := range execTables(n) {
			count += checkPromise6(t, x, x)
			count += checkPromise6(t, x, table(n))
			for rare := range 12 {
				count += checkPromise6(t, x, m.smaller(x, 1+3*rare))
			}
		}
	}
	if count < 10000 {
		t.Error("few pairs:", count)
	}
}

// TestPromise6AllSmallerTables cuts and empties all that there is to.
func TestPromise6AllSmallerTables(t *testing.T) {
	count := 0
	smallTables([]int{0, 1}, func(x impl.Table) {
		for mask := range 1 << 3 {
			less := cloneTable(x)
			for rep := range 3 {
				if mask>>rep&1 == 1 {
					less.Rows[rep] = nil
				}
			}
			count += checkPromise6(t, x, less)
		}
	})
	if count < 500 {
		t.Error("few pairs:", count)
	}
}

// led is a table of committed commands that got their attributes one behind the
// other, and the order in which they did: by AttrFor the rows ahead, of which
// one in rare, if not 0, was not known.
func (m *mixer) led(n, count, rare int) (impl.Table, []instance) {
	cmds := someCmds([]int{1}, []int{1})
	x := table(n)
	var order []instance
	for range count {
		rep := m.next(n)
		no := len(x.Rows[rep]) + 1
		if no > impl.MaxRow {
			continue
		}
		c := cmds[m.next(len(cmds))]
		known := cloneTable(x)
		if rare > 0 {
			known = m.smaller(x, rare)
		}
		a, _ := impl.AttrFor(known, c, rep, no)
		x, _ = impl.SetRow(x, rep, no, com(c, a.Seq, a.Deps...))
		order = append(order, instance{rep, no})
	}
	return x, order
}

// TestPromise6AsLed has all that interferes executed as it was led.
func TestPromise6AsLed(t *testing.T) {
	m := mixer(31)
	for _, n := range groups {
		for count := range 40 {
			x, order := m.led(n, count, 0)
			checkDepsHold(t, x, true)
			got, _ := impl.OrderIn(x)
			if same, ok := impl.SameOrders(got, pairsOf(order), x); !ok || !same {
				t.Error("not as led:", order, got, same, ok)
			}
			checkPromise6(t, x, m.smaller(x, 8))
			// The rows that were led first hang on none of those that were led then.
			half := cloneTable(x)
			for _, at := range order[len(order)/2:] {
				half.Rows[at[0]] = half.Rows[at[0]][:min(at[1]-1, len(half.Rows[at[0]]))]
			}
			if ready, _ := impl.ReadyIn(half); len(ready) != len(order)/2 {
				t.Error("not ready, though all ahead of it is there:", x, half, ready)
			}
			checkPromise6(t, x, half)
			unknown, _ := m.led(n, count, 3)
			checkPromise6(t, unknown, m.smaller(unknown, 8))
		}
	}
}
