package tests

import (
	"math"
	"slices"
	"testing"

	"loop.example/g00698/impl"
)

// namedGraph is a graph with what the specification tells of it.
type namedGraph struct {
	name   string
	graph  [][]int
	groups [][]int
}

func namedGraphs() []namedGraph {
	return []namedGraph{
		{"no point", nil, nil},
		{"no point, not nil", [][]int{}, nil},
		{"one point", [][]int{nil}, [][]int{{0}}},
		{"one point on itself", [][]int{{0}}, [][]int{{0}}},
		{"two apart", [][]int{{}, {}}, [][]int{{0}, {1}}},
		{"two, the first on the second", [][]int{{1}, {}}, [][]int{{1}, {0}}},
		{"two, the second on the first", [][]int{{}, {0}}, [][]int{{0}, {1}}},
		{"two on each other", [][]int{{1}, {0}}, [][]int{{0, 1}}},
		{"two, one of them on itself too", [][]int{{0, 1}, {}}, [][]int{{1}, {0}}},
		{"four without a ring", [][]int{{1, 2}, {3}, {3}, {}}, [][]int{{3}, {1}, {2}, {0}}},
		{"a ring of three", [][]int{{2}, {0}, {1}}, [][]int{{0, 1, 2}}},
		{"a ring of three on themselves", [][]int{{0, 1}, {1, 2}, {0, 2}}, [][]int{{0, 1, 2}}},
		{"all on all", [][]int{{0, 1, 2, 3}, {0, 1, 2, 3}, {0, 1, 2, 3}, {0, 1, 2, 3}}, [][]int{{0, 1, 2, 3}}},
		{"a ring in a ring", [][]int{{1}, {2}, {1, 3}, {0}}, [][]int{{0, 1, 2, 3}}},
		{"rings in rings in rings", [][]int{{1}, {0, 2}, {3}, {2, 4}, {5}, {0, 4}}, [][]int{{0, 1, 2, 3, 4, 5}}},
		{"two rings with one common point", [][]int{{1}, {2}, {0, 3}, {4}, {2}}, [][]int{{0, 1, 2, 3, 4}}},
		{"two rings, the first on the second", [][]int{{1}, {0, 2}, {3}, {2}}, [][]int{{2, 3}, {0, 1}}},
		{"two rings, the second on the first", [][]int{{1}, {0}, {3}, {1, 2}}, [][]int{{0, 1}, {2, 3}}},
		{"three rings one behind the other", [][]int{{1, 5}, {0}, {3}, {2}, {3, 5}, {4}}, [][]int{{2, 3}, {4, 5}, {0, 1}}},
		{"two rings apart, one in the other's numbers", [][]int{{3}, {2}, {1}, {0}}, [][]int{{0, 3}, {1, 2}}},
		// 1, 3 and 4 are free at first, and 0 once 3 is told, ahead of 4.
		{"free at the same time", [][]int{{3}, {}, {4}, {}, {}}, [][]int{{1}, {3}, {0}, {4}, {2}}},
		// A group's first point is its least, not the one met first.
		{"free groups by their least points", [][]int{{5}, {4}, {3}, {2}, {1}, {}}, [][]int{{1, 4}, {2, 3}, {5}, {0}}},
		{"free behind two others alone", [][]int{{3, 4}, {}, {0}, {}, {1}}, [][]int{{1}, {3}, {4}, {0}, {2}}},
		{"free by its other point alone", [][]int{{1}, {0, 3}, {}, {}}, [][]int{{2}, {3}, {0, 1}}},
		{"a group behind groups of greater points", [][]int{{1, 4}, {0}, {3}, {2}, {5}, {4}}, [][]int{{2, 3}, {4, 5}, {0, 1}}},
		// From 0 the search meets 1, which is told at once, and 1 again from 2.
		{"a told group seen again", [][]int{{1, 2}, {}, {1, 3}, {0}}, [][]int{{1}, {0, 2, 3}}},
		{"a told ring seen again", [][]int{{1, 3}, {2}, {1}, {2, 4}, {0}}, [][]int{{1, 2}, {0, 3, 4}}},
		{"a way back from far down", [][]int{{1}, {2}, {3}, {4, 5}, {}, {1}}, [][]int{{4}, {1, 2, 3, 5}, {0}}},
	}
}

// numbersBelow is 0 and all further numbers below n.
func numbersBelow(n int) []int {
	var numbers []int
	for number := range n {
		numbers = append(numbers, number)
	}
	return numbers
}

// chain has each point hang on the next one.
func chain(points int) [][]int {
	g := make([][]int, points)
	for point := range points - 1 {
		g[point] = []int{point + 1}
	}
	return g
}

// ring is a chain of which the last point hangs on the first.
func ring(points int) [][]int {
	g := chain(points)
	g[points-1] = []int{0}
	return g
}

// ladder has each point hang on all that are less.
func ladder(points int) [][]int {
	g := make([][]int, points)
	for point := range points {
		g[point] = numbersBelow(point)
	}
	return g
}

// smallGraph is the graph of some points of which the bits of mask tell the
// edges.
func smallGraph(points, mask int) [][]int {
	g := make([][]int, points)
	for point := range points {
		g[point] = numbersIn(mask >> (point * points) & (1<<points - 1))
	}
	return g
}

// mixer makes numbers of no meaning, the same ones at each run.
type mixer uint32

func (m *mixer) next(below int) int {
	*m = *m*1664525 + 1013904223
	return int(uint32(*m)>>8) % below
}

// mixed is the numbers below n in an order of no meaning.
func (m *mixer) mixed(n int) []int {
	list := numbersBelow(n)
	for i := range list {
		j := i + m.next(n-i)
		list[i], list[j] = list[j], list[i]
	}
	return list
}

// graph has, of all edges, about edges for each point.
func (m *mixer) graph(points, edges int) [][]int {
	g := make([][]int, points)
	for point := range points {
		for other := range points {
			if m.next(points) < edges {
				g[point] = append(g[point], other)
			}
		}
	}
	return g
}

// mixedGraphs is graphs of up to MaxPoints points, with few and many edges.
func mixedGraphs() [][][]int {
	m := mixer(5)
	var graphs [][][]int
	for points := 1; points <= impl.MaxPoints; points++ {
		for _, edges := range []int{1, 1, 1, 2, 2, 3, 8, points} {
			graphs = append(graphs, m.graph(points, edges))
		}
	}
	return graphs
}

// someGraphs is good graphs of all sizes, all those of two points among them.
func someGraphs() [][][]int {
	graphs := mixedGraphs()
	for _, named := range namedGraphs() {
		graphs = append(graphs, named.graph)
	}
	for mask := range 1 << 4 {
		graphs = append(graphs, smallGraph(2, mask))
	}
	return append(graphs, chain(40), ring(40), ladder(40), make([][]int, 40))
}

// badGraphs is graphs that are not good.
func badGraphs() [][][]int {
	bad := [][][]int{
		make([][]int, 41), make([][]int, 42), make([][]int, 1000), chain(41), ring(41), ladder(41),
		{{0, 0}}, {{1, 1}, {}}, {{}, {0, 0}}, {{1, 0}, {}}, {{}, {1, 0}}, {{}, {}, {0, 2, 1}}, {{0, 1, 1}, {}, {}}, {{0, 2, 0}, {}, {}},
		slices.Repeat([][]int{slices.Repeat([]int{3}, 1000)}, 40),
	}
	for _, points := range []int{1, 2, 5, 39, 40} {
		for _, number := range []int{math.MinInt, -1, points, points + 1, 1 << 32, math.MaxInt} {
			for _, at := range []int{0, points - 1} {
				g := make([][]int, points)
				g[at] = []int{number}
				behind := make([][]int, points)
				behind[at] = []int{0, number}
				ahead := make([][]int, points)
				ahead[at] = []int{number, points - 1}
				bad = append(bad, g, behind, ahead)
			}
		}
	}
	return bad
}

// plainLeads follows ways of one edge more, until there are no new ones.
func plainLeads(g [][]int) [][]bool {
	leads := make([][]bool, len(g))
	for point := range g {
		leads[point] = make([]bool, len(g))
		leads[point][point] = true
	}
	for isNew := true; isNew; {
		isNew = false
		for point := range g {
			for middle := range g {
				for _, other := range g[middle] {
					if leads[point][middle] && !leads[point][other] {
						leads[point][other], isNew = true, true
					}
				}
			}
		}
	}
	return leads
}

func plainReached(leads [][]bool, k int) []int {
	var reached []int
	for point, isLed := range leads[k] {
		if isLed {
			reached = append(reached, point)
		}
	}
	return reached
}

// plainComponents looks for the least point of a free group from the front
// again, whenever it has told one.
func plainComponents(leads [][]bool) [][]int {
	isTold := make([]bool, len(leads))
	var told [][]int
	for first := 0; first < len(leads); first++ {
		group := plainFreeGroup(leads, first, isTold)
		if group == nil {
			continue
		}
		for _, point := range group {
			isTold[point] = true
		}
		told = append(told, group)
		first = -1
	}
	return told
}

// plainFreeGroup is the group of first, if it is left, but no other group to
// which it leads is; nil otherwise.
func plainFreeGroup(leads [][]bool, first int, isTold []bool) []int {
	if isTold[first] {
		return nil
	}
	var group []int
	for point := range leads {
		if leads[first][point] && leads[point][first] {
			group = append(group, point)
		} else if leads[first][point] && !isTold[point] {
			return nil
		}
	}
	return group
}

func plainClosed(leads [][]bool, have []int) []int {
	var closed []int
	for _, point := range have {
		isOut := func(other int) bool { return !slices.Contains(have, other) }
		if !slices.ContainsFunc(plainReached(leads, point), isOut) {
			closed = append(closed, point)
		}
	}
	return closed
}

func plainOrder(leads [][]bool, key []int) []int {
	var order []int
	for _, group := range plainComponents(leads) {
		for len(group) > 0 {
			least := 0
			for at := range group {
				if key[group[at]] < key[group[least]] {
					least = at
				}
			}
			order = append(order, group[least])
			group = slices.Delete(group, least, least+1)
		}
	}
	return order
}

// plainIsOrder looks at any two points, and at what stands between them.
func plainIsOrder(g [][]int, leads [][]bool, key, l []int) bool {
	for i, ahead := range l {
		for j := i + 1; j < len(l); j++ {
			point := l[j]
			if slices.Contains(g[ahead], point) && !leads[point][ahead] {
				return false
			}
			if !leads[point][ahead] || !leads[ahead][point] {
				continue
			}
			if key[ahead] > key[point] {
				return false
			}
			for _, between := range l[i:j] {
				if !leads[between][point] || !leads[point][between] {
					return false
				}
			}
		}
	}
	return true
}

// keysOf gives n points keys of no meaning, some next to each other.
func keysOf(m *mixer, n int) []int {
	key := m.mixed(n)
	switch m.next(4) {
	case 0:
		for i := range key {
			key[i] = 999999 - key[i]
		}
	case 1:
		for i := range key {
			key[i] *= 999999 / impl.MaxPoints
		}
	case 2:
		for i := range key {
			if key[i] == n-1 {
				key[i] = 999999
			}
		}
	}
	return key
}

func TestGraphConstants(t *testing.T) {
	if impl.MaxPoints != 40 {
		t.Error("MaxPoints is", impl.MaxPoints)
	}
}

func TestGoodGraph(t *testing.T) {
	for _, g := range someGraphs() {
		if !impl.GoodGraph(g) {
			t.Error("not good:", g)
		}
	}
	all := slices.Repeat([][]int{numbersBelow(40)}, 40)
	if !impl.GoodGraph(all) {
		t.Error("not good: each of 40 points on all")
	}
}

func TestGoodGraphInvalid(t *testing.T) {
	for _, g := range badGraphs() {
		if impl.GoodGraph(g) {
			t.Error("good:", g)
		}
	}
}

func checkComponents(t *testing.T, g, want [][]int) {
	t.Helper()
	if got, ok := impl.ComponentsOf(g); !ok || !sameLists(got, want) {
		t.Error("ComponentsOf", g, got, ok, "not", want)
	}
}

func TestComponentsOfWrittenOut(t *testing.T) {
	for _, named := range namedGraphs() {
		if got, ok := impl.ComponentsOf(named.graph); !ok || !sameLists(got, named.groups) {
			t.Error("ComponentsOf", named.name, got, ok, "not", named.groups)
		}
	}
}

func TestComponentsOfMaxPoints(t *testing.T) {
	var up, down [][]int
	for point := range 40 {
		up, down = append(up, []int{point}), append(down, []int{39 - point})
	}
	checkComponents(t, chain(40), down)
	checkComponents(t, ladder(40), up)
	checkComponents(t, make([][]int, 40), up)
	checkComponents(t, ring(40), [][]int{numbersBelow(40)})
	checkComponents(t, slices.Repeat([][]int{numbersBelow(40)}, 40), [][]int{numbersBelow(40)})
	// Twenty rings of two, each on the one of the next greater first point.
	var rings, turns [][]int
	for first := range 20 {
		rings = append(rings, []int{first + 20})
		turns = append(turns, []int{19 - first, 39 - first})
	}
	for first := range 19 {
		rings = append(rings, []int{first, first + 1})
	}
	checkComponents(t, append(rings, []int{19}), turns)
}

func TestComponentsOfAllSmallGraphs(t *testing.T) {
	for points := range 5 {
		for mask := range 1 << (points * points) {
			g := smallGraph(points, mask)
			checkComponents(t, g, plainComponents(plainLeads(g)))
		}
	}
}

func TestComponentsOfMixedGraphs(t *testing.T) {
	for _, g := range mixedGraphs() {
		checkComponents(t, g, plainComponents(plainLeads(g)))
	}
}

func TestComponentsOfInvalid(t *testing.T) {
	for _, g := range badGraphs() {
		if got, ok := impl.ComponentsOf(g); ok || len(got) != 0 {
			t.Error("ComponentsOf", g, got, ok)
		}
	}
}

// groupNumbers tells of each point in which group it is, -1 in none.
func groupNumbers(t *testing.T, g, groups [][]int) []int {
	t.Helper()
	numbers := slices.Repeat([]int{-1}, len(g))
	for number, group := range groups {
		if len(group) == 0 || !slices.IsSorted(group) {
			t.Error("empty or not rising:", groups, "of", g)
		}
		for _, point := range group {
			if numbers[point] != -1 {
				t.Error("twice in", groups, "of", g, point)
			}
			numbers[point] = number
		}
	}
	if slices.Contains(numbers, -1) {
		t.Error("a point is in no group:", groups, "of", g)
	}
	return numbers
}

func checkPromise5(t *testing.T, g [][]int) {
	t.Helper()
	groups, ok := impl.ComponentsOf(g)
	if !ok {
		t.Fatal("ComponentsOf", g)
	}
	numbers := groupNumbers(t, g, groups)
	reached := make([][]int, len(g))
	for point := range g {
		reached[point], ok = impl.ReachedFrom(g, point)
		if !ok {
			t.Fatal("ReachedFrom", g, point)
		}
	}
	for point := range g {
		for other := range g {
			isMutual := slices.Contains(reached[point], other) && slices.Contains(reached[other], point)
			if isMutual != (numbers[point] == numbers[other]) {
				t.Error("groups", groups, "of", g, "but", point, "and", other, "reach each other:", isMutual)
			}
		}
		for _, other := range g[point] {
			if numbers[other] > numbers[point] {
				t.Error("groups", groups, "of", g, "but", point, "hangs on", other)
			}
		}
	}
}

func TestPromise5GroupsReachEachOther(t *testing.T) {
	for _, g := range someGraphs() {
		checkPromise5(t, g)
	}
	for mask := range 1 << 9 {
		checkPromise5(t, smallGraph(3, mask))
	}
	for mask := 0; mask < 1<<25; mask += 9973 {
		checkPromise5(t, smallGraph(5, mask))
	}
}

func TestReachedFrom(t *testing.T) {
	for _, g := range someGraphs() {
		leads := plainLeads(g)
		for k := range g {
			if got, ok := impl.ReachedFrom(g, k); !ok || !slices.Equal(got, plainReached(leads, k)) {
				t.Error("ReachedFrom", g, k, got, ok)
			}
		}
	}
}

func TestReachedFromWrittenOut(t *testing.T) {
	cases := []struct {
		name string
		g    [][]int
		k    int
		want []int
	}{
		{"one point", [][]int{{}}, 0, []int{0}},
		{"one point on itself", [][]int{{0}}, 0, []int{0}},
		{"on nothing", [][]int{{1}, {}, {1}}, 1, []int{1}},
		{"on nothing, in the middle of others", [][]int{{1, 2}, {}, {0, 1}}, 1, []int{1}},
		{"over others", [][]int{{}, {3}, {0}, {2}}, 1, []int{0, 1, 2, 3}},
		{"greater and smaller ones", [][]int{{}, {}, {0, 4}, {}, {}}, 2, []int{0, 2, 4}},
		{"into a ring", [][]int{{1}, {2}, {1}, {0}}, 0, []int{0, 1, 2}},
		{"from a ring", [][]int{{1}, {2}, {1}, {0}}, 1, []int{1, 2}},
		{"two ways to one", [][]int{{1, 2}, {3}, {3}, {}}, 0, []int{0, 1, 2, 3}},
		{"first of a chain", chain(40), 0, numbersBelow(40)},
		{"last of a chain", chain(40), 39, []int{39}},
		{"a late one of a chain", chain(40), 37, []int{37, 38, 39}},
		{"last of a ring", ring(40), 39, numbersBelow(40)},
		{"one of forty apart", make([][]int, 40), 17, []int{17}},
	}
	for _, c := range cases {
		if got, ok := impl.ReachedFrom(c.g, c.k); !ok || !slices.Equal(got, c.want) {
			t.Error("ReachedFrom:", c.name, got, ok, "not", c.want)
		}
	}
}

func TestReachedFromInvalid(t *testing.T) {
	check := func(g [][]int, k int) {
		t.Helper()
		if got, ok := impl.ReachedFrom(g, k); ok || len(got) != 0 {
			t.Error("ReachedFrom", g, k, got, ok)
		}
	}
	for _, g := range someGraphs() {
		for _, k := range []int{math.MinInt, -1, len(g), len(g) + 1, 41, 1 << 32, math.MaxInt} {
			check(g, k)
		}
	}
	for _, g := range badGraphs() {
		check(g, 0)
		check(g, len(g)-1)
	}
}

func checkClosed(t *testing.T, g [][]int, have, want []int) {
	t.Helper()
	if got, ok := impl.ClosedIn(g, have); !ok || !slices.Equal(got, want) {
		t.Error("ClosedIn", g, have, got, ok, "not", want)
	}
}

func TestClosedInWrittenOut(t *testing.T) {
	twoRings := [][]int{{1}, {0, 2}, {3}, {2}, {}}
	for _, c := range []struct{ have, want []int }{
		{nil, nil},
		{[]int{}, nil},
		{[]int{0}, nil},
		{[]int{4}, []int{4}},
		{[]int{2, 3}, []int{2, 3}},
		{[]int{0, 1}, nil},
		{[]int{0, 1, 2}, nil},
		{[]int{1, 2, 3}, []int{2, 3}},
		{[]int{0, 2, 3, 4}, []int{2, 3, 4}},
		{[]int{0, 1, 3, 4}, []int{4}},
		{[]int{0, 1, 2, 3}, []int{0, 1, 2, 3}},
		{numbersBelow(5), numbersBelow(5)},
	} {
		checkClosed(t, twoRings, c.have, c.want)
	}
	checkClosed(t, nil, nil, nil)
	checkClosed(t, [][]int{{0}}, []int{0}, []int{0})
	checkClosed(t, [][]int{{0}}, nil, nil)
	checkClosed(t, ring(40), numbersBelow(40), numbersBelow(40))
	checkClosed(t, ring(40), numbersBelow(39), nil)
	checkClosed(t, ring(40), numbersBelow(40)[1:], nil)
	checkClosed(t, chain(40), numbersBelow(39), nil)
	checkClosed(t, chain(40), []int{0, 5, 37, 38, 39}, []int{37, 38, 39})
	// 0 hangs on 1, which is there, and leads to 2 over it, which is not.
	checkClosed(t, chain(3), []int{0, 1}, nil)
}

func TestClosedInOfAllLists(t *testing.T) {
	for points := range 4 {
		for mask := range 1 << (points * points) {
			g := smallGraph(points, mask)
			leads := plainLeads(g)
			for haveMask := range 1 << points {
				have := numbersIn(haveMask)
				checkClosed(t, g, have, plainClosed(leads, have))
			}
		}
	}
	m := mixer(9)
	for _, g := range mixedGraphs() {
		leads := plainLeads(g)
		for most := range 4 {
			var have []int
			for point := range g {
				if m.next(8) < 4+most {
					have = append(have, point)
				}
			}
			checkClosed(t, g, have, plainClosed(leads, have))
		}
		checkClosed(t, g, numbersBelow(len(g)), numbersBelow(len(g)))
		checkClosed(t, g, nil, nil)
	}
}

func TestClosedInInvalid(t *testing.T) {
	check := func(g [][]int, have []int) {
		t.Helper()
		if got, ok := impl.ClosedIn(g, have); ok || len(got) != 0 {
			t.Error("ClosedIn", g, have, got, ok)
		}
	}
	for _, points := range []int{1, 3, 40} {
		for _, g := range [][][]int{make([][]int, points), ring(points)} {
			for _, number := range []int{math.MinInt, -1, points, points + 1, 1 << 32, math.MaxInt} {
				check(g, []int{number})
				check(g, []int{0, number})
				check(g, []int{number, 0})
			}
			check(g, []int{0, 0})
			check(g, append(numbersBelow(points), points-1))
			check(g, append(numbersBelow(points), 0))
			check(g, append([]int{0}, numbersBelow(points)...))
			check(g, slices.Repeat([]int{0}, 1000))
		}
	}
	check(nil, []int{0})
	check(make([][]int, 3), []int{1, 0})
	check(make([][]int, 3), []int{0, 2, 1})
	for _, g := range badGraphs() {
		check(g, nil)
		check(g, []int{0})
	}
}
