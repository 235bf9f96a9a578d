package tests

import (
	"math"
	"slices"
	"testing"

	"loop.example/g00698/impl"
)

func checkOrder(t *testing.T, g [][]int, key, want []int) {
	t.Helper()
	if got, ok := impl.OrderOf(g, key); !ok || !slices.Equal(got, want) {
		t.Error("OrderOf", g, key, got, ok, "not", want)
	}
}

func checkIsOrder(t *testing.T, g [][]int, key, l []int, want bool) {
	t.Helper()
	if got, ok := impl.IsOrder(g, key, l); !ok || got != want {
		t.Error("IsOrder", g, key, l, got, ok, "not", want)
	}
}

func TestOrderOfWrittenOut(t *testing.T) {
	threeRings := [][]int{{1, 5}, {0}, {3}, {2}, {3, 5}, {4}}
	for _, c := range []struct {
		g         [][]int
		key, want []int
	}{
		{nil, nil, nil},
		{[][]int{}, []int{}, nil},
		{[][]int{{}}, []int{0}, []int{0}},
		{[][]int{{}}, []int{999999}, []int{0}},
		{[][]int{{0}}, []int{7}, []int{0}},
		// Keys turn no groups round, only the points of one.
		{[][]int{{}, {}}, []int{9, 3}, []int{0, 1}},
		{[][]int{{1}, {}}, []int{3, 9}, []int{1, 0}},
		{[][]int{{1}, {0}}, []int{3, 9}, []int{0, 1}},
		{[][]int{{1}, {0}}, []int{9, 3}, []int{1, 0}},
		{[][]int{{1}, {0}}, []int{999999, 0}, []int{1, 0}},
		{[][]int{{1}, {0}}, []int{0, 999999}, []int{0, 1}},
		{[][]int{{1}, {2}, {0}}, []int{10, 9, 8}, []int{2, 1, 0}},
		{[][]int{{1}, {2}, {0}}, []int{10, 8, 9}, []int{1, 2, 0}},
		{threeRings, []int{1, 2, 3, 4, 5, 6}, []int{2, 3, 4, 5, 0, 1}},
		{threeRings, []int{6, 5, 4, 3, 2, 1}, []int{3, 2, 5, 4, 1, 0}},
		{threeRings, []int{6, 5, 3, 4, 2, 1}, []int{2, 3, 5, 4, 1, 0}},
		{[][]int{{5}, {4}, {3}, {2}, {1}, {}}, []int{0, 9, 1, 8, 2, 7}, []int{4, 1, 2, 3, 5, 0}},
	} {
		checkOrder(t, c.g, c.key, c.want)
	}
}

func TestOrderOfMaxPoints(t *testing.T) {
	rising := numbersBelow(40)
	falling, spread := slices.Clone(rising), slices.Clone(rising)
	slices.Reverse(falling)
	for point := range spread {
		// 7 and 40 have no common divisor, so that no two keys are the same.
		spread[point] = point * 7 % 40
	}
	bySpread := make([]int, 40)
	for point, key := range spread {
		bySpread[key] = point
	}
	checkOrder(t, chain(40), rising, falling)
	checkOrder(t, chain(40), falling, falling)
	checkOrder(t, ladder(40), falling, rising)
	checkOrder(t, make([][]int, 40), falling, rising)
	checkOrder(t, ring(40), rising, rising)
	checkOrder(t, ring(40), falling, falling)
	checkOrder(t, ring(40), spread, bySpread)
}

func TestOrderOf(t *testing.T) {
	m := mixer(7)
	for _, g := range someGraphs() {
		leads := plainLeads(g)
		for range 3 {
			key := keysOf(&m, len(g))
			want := plainOrder(leads, key)
			checkOrder(t, g, key, want)
			checkIsOrder(t, g, key, want, true)
		}
	}
}

// badKeys is keys that n points, one at least, can't have. None of these lists
// has each point once, either.
func badKeys(n int) [][]int {
	good := numbersBelow(n)
	bad := [][]int{good[:n-1], append(slices.Clone(good), n), slices.Repeat([]int{1}, 1000), numbersBelow(1000)}
	for _, at := range []int{0, n / 2, n - 1} {
		for _, key := range []int{math.MinInt, -1, 1000000, 1000001, 1 << 32, math.MaxInt} {
			list := slices.Clone(good)
			list[at] = key
			bad = append(bad, list)
		}
		if n > 1 {
			list := slices.Clone(good)
			list[at] = list[(at+1)%n]
			bad = append(bad, list)
		}
	}
	return bad
}

func TestOrderOfInvalid(t *testing.T) {
	check := func(g [][]int, key []int) {
		t.Helper()
		if got, ok := impl.OrderOf(g, key); ok || len(got) != 0 {
			t.Error("OrderOf", g, key, got, ok)
		}
	}
	for _, points := range []int{1, 2, 3, 40} {
		for _, key := range badKeys(points) {
			check(make([][]int, points), key)
			check(ring(points), key)
		}
	}
	check(nil, []int{0})
	for _, g := range badGraphs() {
		check(g, numbersBelow(len(g)))
		check(g, nil)
	}
}

func TestIsOrderWrittenOut(t *testing.T) {
	twoRings := [][]int{{1}, {0}, {3}, {1, 2}}
	same, turned := []int{1, 2, 3, 4}, []int{2, 1, 4, 3}
	for _, c := range []struct {
		name   string
		g      [][]int
		key, l []int
		want   bool
	}{
		{"no point", nil, nil, nil, true},
		{"one point", [][]int{{}}, []int{4}, []int{0}, true},
		{"one point on itself", [][]int{{0}}, []int{4}, []int{0}, true},
		{"apart", [][]int{{}, {}}, []int{1, 2}, []int{0, 1}, true},
		{"apart, greater point and key first", [][]int{{}, {}}, []int{1, 2}, []int{1, 0}, true},
		{"behind that on which it hangs", [][]int{{1}, {}}, []int{1, 2}, []int{1, 0}, true},
		{"ahead of that on which it hangs", [][]int{{1}, {}}, []int{1, 2}, []int{0, 1}, false},
		{"last ahead of that on which it hangs", [][]int{{}, {}, {}, {2}}, same, []int{0, 1, 3, 2}, false},
		{"ahead of that on which it hangs, far apart", [][]int{{3}, {}, {}, {}}, same, []int{0, 1, 2, 3}, false},
		{"a group by rising keys", [][]int{{1}, {0}}, []int{5, 3}, []int{1, 0}, true},
		{"a group by falling keys", [][]int{{1}, {0}}, []int{5, 3}, []int{0, 1}, false},
		{"groups side by side", twoRings, same, []int{0, 1, 2, 3}, true},
		{"keys that turn both round", twoRings, turned, []int{1, 0, 3, 2}, true},
		{"keys that turn both, but points do not", twoRings, turned, []int{0, 1, 2, 3}, false},
		{"the first against its keys", twoRings, same, []int{1, 0, 2, 3}, false},
		{"the second against its keys", twoRings, same, []int{0, 1, 3, 2}, false},
		{"the groups in the other order", twoRings, same, []int{2, 3, 0, 1}, false},
		// 2 hangs on no point of the first group, so only its group is torn.
		{"a group torn apart by another", twoRings, same, []int{0, 2, 1, 3}, false},
		{"a group around another", twoRings, same, []int{2, 0, 1, 3}, false},
		{"a group torn apart by one that hangs on nothing", [][]int{{2}, {}, {0}}, same[:3], []int{0, 1, 2}, false},
		{"one that hangs on nothing ahead", [][]int{{2}, {}, {0}}, same[:3], []int{1, 0, 2}, true},
		{"one that hangs on nothing behind", [][]int{{2}, {}, {0}}, same[:3], []int{0, 2, 1}, true},
		{"three of a group, the middle one not by its key", [][]int{{1}, {2}, {0}}, []int{0, 2, 1}, []int{0, 1, 2}, false},
		{"three of a group by their keys", [][]int{{1}, {2}, {0}}, []int{0, 999999, 1}, []int{0, 2, 1}, true},
		{"three of a group, turned round as a ring", [][]int{{1}, {2}, {0}}, []int{0, 1, 2}, []int{1, 2, 0}, false},
		// Over a point that stands ahead of both nothing is asked.
		{"leads to one behind over another one", [][]int{{1}, {2}, {}}, same[:3], []int{2, 1, 0}, true},
		{"leads to one behind it", [][]int{{1}, {2}, {}}, same[:3], []int{1, 0, 2}, false},
	} {
		if got, ok := impl.IsOrder(c.g, c.key, c.l); !ok || got != c.want {
			t.Error("IsOrder:", c.name, got, ok)
		}
	}
}

// eachOrder looks at all orders of the numbers that list begins with.
func eachOrder(list []int, at int, look func([]int)) {
	if at == len(list) {
		look(list)
		return
	}
	for i := at; i < len(list); i++ {
		list[at], list[i] = list[i], list[at]
		eachOrder(list, at+1, look)
		list[at], list[i] = list[i], list[at]
	}
}

func TestIsOrderOfAllOrders(t *testing.T) {
	for points := range 4 {
		for mask := range 1 << (points * points) {
			g := smallGraph(points, mask)
			leads := plainLeads(g)
			eachOrder(numbersBelow(points), 0, func(key []int) {
				eachOrder(numbersBelow(points), 0, func(l []int) {
					checkIsOrder(t, g, key, l, plainIsOrder(g, leads, key, l))
				})
			})
		}
	}
	m := mixer(11)
	for mask := 0; mask < 1<<25; mask += 99991 {
		g := smallGraph(5, mask)
		leads, key := plainLeads(g), keysOf(&m, 5)
		eachOrder(numbersBelow(5), 0, func(l []int) {
			checkIsOrder(t, g, key, l, plainIsOrder(g, leads, key, l))
		})
	}
}

func TestIsOrderOfMixedGraphs(t *testing.T) {
	m := mixer(13)
	for _, g := range mixedGraphs() {
		leads, key := plainLeads(g), keysOf(&m, len(g))
		order := plainOrder(leads, key)
		for range 6 {
			// Two that change places often make an order a bad one, not always.
			l := slices.Clone(order)
			i, j := m.next(len(l)), m.next(len(l))
			if m.next(2) == 0 {
				j = (i + 1) % len(l)
			}
			l[i], l[j] = l[j], l[i]
			checkIsOrder(t, g, key, l, plainIsOrder(g, leads, key, l))
		}
		l := m.mixed(len(g))
		checkIsOrder(t, g, key, l, plainIsOrder(g, leads, key, l))
	}
}

// TestIsOrderOfOtherTurns takes, of the groups that are free, the one with the
// greatest first point, which OrderOf does not tell.
func TestIsOrderOfOtherTurns(t *testing.T) {
	m := mixer(17)
	for _, g := range someGraphs() {
		leads, key := plainLeads(g), keysOf(&m, len(g))
		left := plainComponents(leads)
		slices.SortFunc(left, func(a, b []int) int { return b[0] - a[0] })
		var l []int
		for len(left) > 0 {
			at := slices.IndexFunc(left, func(group []int) bool {
				for _, point := range plainReached(leads, group[0]) {
					if !slices.Contains(group, point) && !slices.Contains(l, point) {
						return false
					}
				}
				return true
			})
			slices.SortFunc(left[at], func(a, b int) int { return key[a] - key[b] })
			l = append(l, left[at]...)
			left = slices.Delete(left, at, at+1)
		}
		checkIsOrder(t, g, key, l, true)
	}
}

func TestIsOrderInvalid(t *testing.T) {
	check := func(g [][]int, key, l []int) {
		t.Helper()
		if got, ok := impl.IsOrder(g, key, l); ok || got {
			t.Error("IsOrder", g, key, l, got, ok)
		}
	}
	for _, points := range []int{1, 2, 3, 40} {
		all := numbersBelow(points)
		for _, g := range [][][]int{make([][]int, points), ring(points)} {
			for _, key := range badKeys(points) {
				check(g, key, all)
			}
			for _, l := range badKeys(points) {
				check(g, all, l)
			}
			for _, at := range []int{0, points - 1} {
				l := slices.Clone(all)
				l[at] = points
				check(g, all, l)
			}
		}
	}
	check(nil, []int{0}, nil)
	check(nil, nil, []int{0})
	// A list that is no order, too, is none of all points.
	check([][]int{{1}, {}, {}}, []int{1, 2, 3}, []int{0, 1, 1})
	check([][]int{{1}, {}, {}}, []int{1, 2, 3}, []int{0, 1})
	for _, g := range badGraphs() {
		all := numbersBelow(len(g))
		check(g, all, all)
		check(g, nil, nil)
	}
}
