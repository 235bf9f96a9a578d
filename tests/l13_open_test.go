package tests

import (
	"math"
	"math/bits"
	"slices"
	"testing"

	"loop.example/g00698/impl"
)

func TestHealConstants(t *testing.T) {
	if impl.MaxHeals != 60 {
		t.Error("MaxHeals is", impl.MaxHeals)
	}
}

func TestIsMajority(t *testing.T) {
	for _, n := range groups {
		for mask := 1; mask < 1<<n; mask++ {
			want := 2*bits.OnesCount(uint(mask)) > n
			if got, ok := impl.IsMajority(n, numbersIn(mask)); !ok || got != want {
				t.Error("IsMajority", n, numbersIn(mask), got, ok)
			}
		}
	}
}

func TestIsMajorityInvalid(t *testing.T) {
	for _, n := range groups {
		for _, members := range badMembers(n) {
			if got, ok := impl.IsMajority(n, members); ok || got {
				t.Error("IsMajority", n, members, got, ok)
			}
		}
	}
	for _, n := range noGroups {
		for _, members := range [][]int{nil, {}, {0}, {1}, {0, 1}, {0, 1, 2}, {0, 1, 2, 3}, {0, 1, 2, 3, 4}, numbersBelow(n & 15)} {
			if got, ok := impl.IsMajority(n, members); ok || got {
				t.Error("IsMajority", n, members, got, ok)
			}
		}
	}
}

func checkFirstOpen(t *testing.T, name string, x impl.Net, members []int, first int, at instance) {
	t.Helper()
	if me, rep, no, ok := impl.FirstOpen(x, members); !ok || me != first || (instance{rep, no}) != at {
		t.Errorf("FirstOpen, %s: %d, %d.%d, %v, not %d, %v, for %v of %q", name, me, rep, no, ok, first, at, members, linesOf(x))
	}
}

func checkNoneOpen(t *testing.T, name string, x impl.Net, members []int) {
	t.Helper()
	if me, rep, no, ok := impl.FirstOpen(x, members); ok || me != 0 || rep != 0 || no != 0 {
		t.Errorf("FirstOpen, %s: %d, %d.%d, %v for %v of %q", name, me, rep, no, ok, members, linesOf(x))
	}
}

// checkOpenFor asks for all members that there may be. What is open for some of
// them is at, and of these the ones in lacking, as a mask, have not settled it.
func checkOpenFor(t *testing.T, name string, x impl.Net, at instance, lacking int, isOpen func(mask int) bool) {
	t.Helper()
	for mask := 1; mask < 1<<len(x.Reps); mask++ {
		if isOpen(mask) {
			checkFirstOpen(t, name, x, numbersIn(mask), bits.TrailingZeros(uint(mask&lacking)), at)
		} else {
			checkNoneOpen(t, name, x, numbersIn(mask))
		}
	}
}

func TestFirstOpenOfNothing(t *testing.T) {
	for _, n := range groups {
		checkOpenFor(t, "nothing done", emptyNet(n), instance{}, 0, always(false))
		// Leads, messages and what is asked are open to nobody.
		x := fullNet(n)
		for me := range x.Reps {
			x.Reps[me].Table = table(n)
		}
		checkOpenFor(t, "no rows", x, instance{}, 0, always(false))
		for me := range x.Reps {
			x.Reps[me].Table = fullTable(n, com(moved, 1, slices.Repeat([]int{impl.MaxRow}, n)...))
		}
		checkOpenFor(t, "all is settled", x, instance{}, 0, always(false))
	}
}

// TestFirstOpenOfOneRow is of an instance of which some have a row: for members
// among which is none of these it is not open.
func TestFirstOpenOfOneRow(t *testing.T) {
	for _, n := range groups {
		of, whole := com(moved, 1, noDeps(n)...), 1<<n-1
		for _, r := range []impl.Row{promised(n, 9), emptyRow(n), row(impl.RwPre, 0, 0, moved, of.Attr), row(impl.RwAcc, 9, 9, moved, of.Attr), of} {
			for rep := range n {
				for by := 1; by <= whole; by++ {
					lacking := whole
					if r.State == impl.RwCom {
						lacking &^= by
					}
					at := instance{rep, 1}
					checkOpenFor(t, "one row", netOfHeld(n, nil, held{at, r, numbersIn(by)}), at, lacking, func(mask int) bool {
						return mask&by != 0 && mask&lacking != 0
					})
				}
			}
		}
	}
}

// TestFirstOpenOfTheNextRow is of lists that are settled up to a row, which is
// empty with all, or not there with the last one.
func TestFirstOpenOfTheNextRow(t *testing.T) {
	for _, n := range groups {
		of, all, whole := com(moved, 1, noDeps(n)...), numbersBelow(n), 1<<n-1
		for _, at := range instancesOf(n) {
			var rows []held
			for no := 1; no < at[1]; no++ {
				rows = append(rows, held{instance{at[0], no}, of, all})
			}
			x := netOfHeld(n, nil, append(rows, held{at, emptyRow(n), all})...)
			checkOpenFor(t, "an empty row", x, at, whole, always(true))
			x = netOfHeld(n, nil, append(rows, held{at, of, all[:n-1]})...)
			checkOpenFor(t, "the last one lacks it", x, at, maskOf(n-1), func(mask int) bool {
				return mask&maskOf(n-1) != 0 && mask != maskOf(n-1)
			})
			if at[1] < impl.MaxRow {
				x = netOfHeld(n, nil, append(rows, held{instance{at[0], impl.MaxRow}, of, all})...)
				checkOpenFor(t, "empty rows ahead of it", x, at, whole, always(true))
			}
		}
	}
}

// TestFirstOpenOfDeps is of instances of which nobody has a row, on which what
// some have settled hangs.
func TestFirstOpenOfDeps(t *testing.T) {
	for _, n := range groups {
		of, all, whole := com(asked, 1, noDeps(n)...), numbersBelow(n), 1<<n-1
		for _, at := range []instance{{0, 1}, {1, 1}, {n - 1, 1}} {
			for _, on := range instancesOf(n) {
				if on[0] == at[0] {
					continue
				}
				x := netOfHeld(n, nil, held{at, com(moved, 2, depsOn(n, on)...), all})
				for no := 1; no <= on[1]; no++ {
					checkOpenFor(t, "all hang on it", x, instance{on[0], no}, whole, always(true))
					x = withHeld(x, held{instance{on[0], no}, of, all})
				}
				checkOpenFor(t, "all of them are settled", x, instance{}, 0, always(false))
				for me := range n {
					x = netOfHeld(n, nil, held{at, of, all}, held{at, com(moved, 2, depsOn(n, on)...), []int{me}})
					checkOpenFor(t, "one hangs on it", x, instance{on[0], 1}, whole, func(mask int) bool { return mask&maskOf(me) != 0 })
				}
			}
			// What is not settled is open itself, and not what it hangs on.
			for _, state := range []int{impl.RwPre, impl.RwAcc} {
				x := netOfHeld(n, nil, held{at, row(state, 8, 8, moved, attr(2, slices.Repeat([]int{impl.MaxRow}, n)...)), all})
				checkOpenFor(t, "not settled", x, at, whole, always(true))
			}
		}
	}
}

// TestFirstOpenIsTheLeast is of a net in which some lack some: the least member
// counts first, and then the least instance that it lacks.
func TestFirstOpenIsTheLeast(t *testing.T) {
	of, pre := com(moved, 1, noDeps(5)...), preRow(moved, 1, noDeps(5)...)
	x := netOfHeld(5, nil,
		held{instance{0, 1}, of, []int{0, 1, 2, 3, 4}}, held{instance{1, 1}, of, []int{0, 1}}, held{instance{1, 2}, pre, []int{3}},
		held{instance{4, 1}, com(moved, 2, depsOn(5, instance{2, 2})...), []int{4}})
	for _, c := range []struct {
		members []int
		first   int
		at      instance
	}{
		{[]int{0, 2}, 2, instance{1, 1}},
		{[]int{1, 2}, 2, instance{1, 1}},
		{[]int{0, 1, 2}, 2, instance{1, 1}},
		{[]int{3}, 3, instance{1, 1}},
		{[]int{2, 3}, 2, instance{1, 1}},
		{[]int{0, 3}, 0, instance{1, 2}},
		{[]int{1, 3}, 1, instance{1, 2}},
		{[]int{0, 1, 3}, 0, instance{1, 2}},
		{[]int{1, 2, 3}, 1, instance{1, 2}},
		{[]int{4}, 4, instance{2, 1}},
		{[]int{2, 4}, 2, instance{2, 1}},
		{[]int{0, 4}, 0, instance{2, 1}},
		{[]int{0, 1, 4}, 0, instance{2, 1}},
		{[]int{2, 3, 4}, 2, instance{1, 1}},
		{[]int{1, 3, 4}, 1, instance{1, 2}},
		{[]int{0, 1, 2, 3, 4}, 0, instance{1, 2}},
	} {
		checkFirstOpen(t, "the least", x, c.members, c.first, c.at)
	}
	for _, members := range [][]int{{0}, {1}, {2}, {0, 1}} {
		checkNoneOpen(t, "the others have more", x, members)
	}
	// Of the same two instances, one lacks the first and one the second.
	x = netOfHeld(5, nil, held{instance{0, 1}, of, []int{1, 2}}, held{instance{3, 1}, of, []int{0, 1, 3, 4}})
	checkFirstOpen(t, "the least lacks the first", x, []int{0, 1, 2}, 0, instance{0, 1})
	checkFirstOpen(t, "the least lacks nothing", x, []int{1, 2, 3}, 2, instance{3, 1})
	checkFirstOpen(t, "the least lacks nothing", x, []int{1, 3, 4}, 3, instance{0, 1})
}

func TestFirstOpenOfDrawnNets(t *testing.T) {
	for _, n := range groups {
		m, open := mixer(140+n), [2]int{}
		for i := range 1000 {
			x := m.safeNet(n)
			if i%4 == 0 {
				x = m.net(n)
			}
			members := numbersIn(1 + m.next(1<<n-1))
			first, at, isOpen := plainFirstOpen(x, members)
			if isOpen {
				checkFirstOpen(t, "drawn", x, members, first, at)
				open[1]++
			} else {
				checkNoneOpen(t, "drawn", x, members)
				open[0]++
			}
		}
		if min(open[0], open[1]) < 100 {
			t.Error("in groups of", n, "was something open or not:", open)
		}
	}
}

func TestFirstOpenInvalid(t *testing.T) {
	for _, n := range groups {
		for _, x := range []impl.Net{emptyNet(n), fullNet(n), unsafeNets(n)[codeSafe][3]} {
			for _, members := range badMembers(n) {
				checkNoneOpen(t, "no members", x, members)
			}
		}
		for i, x := range badNets(n) {
			checkNoneOpen(t, "a bad net", x, numbersIn(1+i%7))
		}
		for _, number := range []int{math.MinInt, -1, 4, math.MaxInt} {
			x := unsafeNets(n)[codeSafe][3]
			x.Reps[n-1].Table.Rows[1][0].State = number
			checkNoneOpen(t, "a bad row", x, []int{0, 1})
		}
	}
}
