package tests

import (
	"math"
	"slices"
	"testing"

	"loop.example/g00698/impl"
)

func checkFinishedIn(t *testing.T, name string, x impl.Net, members []int, want bool) {
	t.Helper()
	if got, ok := impl.FinishedIn(x, members); !ok || got != want {
		t.Errorf("FinishedIn, %s: %v, %v for %v of %q", name, got, ok, members, linesOf(x))
	}
}

// checkFinishedFor asks for all members that there may be: wanted tells of some,
// as a mask, whether nothing is open for them.
func checkFinishedFor(t *testing.T, name string, x impl.Net, wanted func(mask int) bool) {
	t.Helper()
	for mask := 1; mask < 1<<len(x.Reps); mask++ {
		checkFinishedIn(t, name, x, numbersIn(mask), wanted(mask))
	}
}

func maskOf(members ...int) int {
	mask := 0
	for _, member := range members {
		mask |= 1 << member
	}
	return mask
}

// always is for nets in which the same is told for all members.
func always(is bool) func(int) bool {
	return func(int) bool { return is }
}

func TestFinishedInOfNothing(t *testing.T) {
	for _, n := range groups {
		checkFinishedFor(t, "nothing done", emptyNet(n), always(true))
		// Leads, messages and what is asked are open to nobody.
		x := fullNet(n)
		for me := range x.Reps {
			x.Reps[me].Table = table(n)
		}
		checkFinishedFor(t, "no rows", x, always(true))
	}
}

// TestFinishedInOfOneRow is of an instance of which some have a row: it is open
// for those among which is one that has it, if not all have settled it.
func TestFinishedInOfOneRow(t *testing.T) {
	for _, n := range groups {
		of := com(moved, 1, noDeps(n)...)
		rows := []impl.Row{promised(n, 9), emptyRow(n), row(impl.RwPre, 0, 0, moved, of.Attr), row(impl.RwAcc, 9, 9, moved, of.Attr), of}
		for i, at := range instancesOf(n) {
			at[1] = 1
			for by := 1; by < 1<<n; by++ {
				r := rows[(i+by)%len(rows)]
				isSettled := r.State == impl.RwCom
				checkFinishedFor(t, "one row", netOfHeld(n, nil, held{at, r, numbersIn(by)}), func(mask int) bool {
					return mask&by == 0 || isSettled && mask&by == mask
				})
			}
		}
		for _, r := range rows {
			isSettled := r.State == impl.RwCom
			for me := range n {
				for _, at := range []instance{{0, 1}, {n - 1, 1}} {
					x := netOfHeld(n, nil, held{at, r, []int{me}})
					checkFinishedFor(t, "one alone has a row", x, func(mask int) bool {
						return mask&maskOf(me) == 0 || isSettled && mask == maskOf(me)
					})
				}
			}
		}
	}
}

// TestFinishedInOfEachInstance is of one that all but the last have settled, and
// of all ahead of it, of which each has an empty row.
func TestFinishedInOfEachInstance(t *testing.T) {
	for _, n := range groups {
		of := com(moved, 1, noDeps(n)...)
		for _, at := range instancesOf(n) {
			all, last := numbersBelow(n), maskOf(n-1)
			x := netOfHeld(n, nil, held{at, of, all})
			checkFinishedFor(t, "the rows ahead of it are empty", x, always(at[1] == 1))
			for no := 1; no < at[1]; no++ {
				x = netOfHeld(n, nil, held{at, of, all})
				for other := 1; other < at[1]; other++ {
					if other != no {
						x = withHeld(x, held{instance{at[0], other}, of, all})
					}
				}
				checkFinishedFor(t, "one row is empty", x, always(false))
				x = withHeld(x, held{instance{at[0], no}, of, all[:n-1]})
				checkFinishedFor(t, "one has an empty row", x, func(mask int) bool { return mask&last == 0 })
				x = withHeld(x, held{instance{at[0], no}, of, all[n-1:]})
				checkFinishedFor(t, "no row is empty", x, always(true))
			}
		}
	}
}

// withHeld is a net in which some have that row, too.
func withHeld(x impl.Net, one held) impl.Net {
	with := cloneNet(x)
	for _, me := range one.by {
		with.Reps[me].Table = withRow(with.Reps[me].Table, one.at, cloneRow(one.row))
	}
	return with
}

// TestFinishedInOfDeps is of instances of which there is no row, on which a row
// of some hangs.
func TestFinishedInOfDeps(t *testing.T) {
	for _, n := range groups {
		of, all := com(asked, 1, noDeps(n)...), numbersBelow(n)
		for _, at := range []instance{{0, 1}, {1, 1}, {n - 1, 1}} {
			for _, on := range instancesOf(n) {
				if on[0] == at[0] {
					continue
				}
				hangs := com(moved, 2, depsOn(n, on)...)
				x := netOfHeld(n, nil, held{at, hangs, all})
				checkFinishedFor(t, "all hang on it", x, always(false))
				for me := range n {
					like := withHeld(x, held{at, of, slices.Delete(numbersBelow(n), me, me+1)})
					// The replicas do not agree, which does not matter here.
					checkFinishedFor(t, "one hangs on it", like, func(mask int) bool { return mask&maskOf(me) == 0 })
				}
				for no := range on[1] {
					x = withHeld(x, held{instance{on[0], no + 1}, of, all})
					checkFinishedFor(t, "so many are settled", x, always(no+1 == on[1]))
				}
			}
		}
	}
}

// TestFinishedInOfItself is of rows that hang on themselves and on each other.
func TestFinishedInOfItself(t *testing.T) {
	for _, n := range groups {
		first, second := instance{0, 1}, instance{n - 1, 1}
		x := netOfHeld(n, nil, held{first, com(moved, 1, depsOn(n, first)...), numbersBelow(n)})
		checkFinishedFor(t, "on itself", x, always(true))
		x = withHeld(x, held{first, com(moved, 1, depsOn(n, first, second)...), []int{0}})
		checkFinishedFor(t, "on another one", x, func(mask int) bool { return mask&1 == 0 })
		x = withHeld(x, held{second, com(asked, 1, depsOn(n, first)...), []int{0}})
		checkFinishedFor(t, "on each other", x, func(mask int) bool { return mask&1 == 0 || mask == 1 })
		x = withHeld(x, held{first, com(moved, 1, depsOn(n, instance{0, 2})...), []int{1}})
		checkFinishedFor(t, "on the one behind", x, func(mask int) bool { return mask&2 == 0 && (mask&1 == 0 || mask == 1) })
	}
}

// TestFinishedInOfRowsThatAreNotSettled is of rows that hang on another one and
// are not RwCom: what they hang on is open for nobody, but they are.
func TestFinishedInOfRowsThatAreNotSettled(t *testing.T) {
	for _, n := range groups {
		at, on, all := instance{0, 1}, instance{n - 1, 1}, numbersBelow(n)
		for _, state := range []int{impl.RwPre, impl.RwAcc} {
			hangs := row(state, 8, 8, moved, attr(2, depsOn(n, on)...))
			x := netOfHeld(n, nil, held{at, hangs, all})
			checkFinishedFor(t, "not settled", x, always(false))
			for me := range n {
				x = netOfHeld(n, nil, held{at, com(moved, 1, noDeps(n)...), all}, held{at, hangs, []int{me}})
				checkFinishedFor(t, "not settled by one", x, func(mask int) bool { return mask&maskOf(me) == 0 })
			}
		}
	}
}

// TestFinishedInOfOthers is of replicas that are no members and have much that
// is not settled.
func TestFinishedInOfOthers(t *testing.T) {
	for _, n := range groups {
		for mask := 1; mask < 1<<n; mask++ {
			x := fullNet(n)
			for _, me := range numbersIn(mask) {
				x.Reps[me].Table = table(n, []impl.Row{com(moved, 1, noDeps(n)...)})
			}
			checkFinishedIn(t, "the others have more", x, numbersIn(mask), true)
			for _, me := range numbersIn(mask) {
				y := withHeld(x, held{instance{1, 1}, promised(n, 8), []int{me}})
				checkFinishedIn(t, "one has a row", y, numbersIn(mask), false)
				y = withHeld(x, held{instance{0, 1}, com(moved, 1, depsOn(n, instance{2, 1})...), []int{me}})
				checkFinishedIn(t, "one hangs on another one", y, numbersIn(mask), false)
				y.Reps[me].Table = table(n)
				checkFinishedIn(t, "one has nothing", y, numbersIn(mask), mask == maskOf(me))
			}
		}
	}
}

// badMembers is lists that are no rising lists of replicas of a group of n, or
// are empty.
func badMembers(n int) [][]int {
	bad := [][]int{nil, {}, {0, 0}, {1, 0}, {n - 1, 0}, {0, 2, 1}, {0, 1, 1}, {1, 1, 2}, {n - 1, n - 1}, slices.Repeat([]int{0}, n)}
	for _, number := range []int{math.MinInt, -n, -1, n, n + 1, 1 << 32, 1 + 1<<32, math.MaxInt} {
		bad = append(bad, []int{number}, []int{0, number}, []int{number, 0}, []int{0, number, 2}, append(numbersBelow(n), number), append([]int{number}, numbersBelow(n)...))
	}
	down := numbersBelow(n)
	slices.Reverse(down)
	return append(bad, down, numbersBelow(n+1), numbersBelow(1000), make([]int, 1000))
}

func TestFinishedInInvalid(t *testing.T) {
	for _, n := range groups {
		for _, x := range []impl.Net{emptyNet(n), fullNet(n), unsafeNets(n)[codeSafe][2]} {
			for _, members := range badMembers(n) {
				if got, ok := impl.FinishedIn(x, members); ok || got {
					t.Error("FinishedIn", members, got, ok)
				}
			}
		}
		for i, x := range badNets(n) {
			if got, ok := impl.FinishedIn(x, numbersIn(1+i%7)); ok || got {
				t.Error("FinishedIn", x, got, ok)
			}
		}
	}
}
