package tests

import (
	"slices"
	"testing"

	"loop.example/g00698/impl"
)

// ledgerCmd is a command of any account, often of an amount that is just there.
func (m *mixer) ledgerCmd(id int) impl.Cmd {
	from := m.next(4)
	switch m.next(8) {
	case 0:
		return impl.Cmd{}
	case 1, 2:
		return read(id, from)
	}
	amount := m.pick(1, 50, 99, 100, 101, 200, 400, 401, 1000, 1+m.next(120), 1+m.next(120), 1+m.next(120))
	return move(id, from, (from+1+m.next(3))%4, amount)
}

// ledgerCmds is count commands, but for CmNone no two of one id.
func (m *mixer) ledgerCmds(count int) []impl.Cmd {
	var cmds []impl.Cmd
	for i := range count {
		cmds = append(cmds, m.ledgerCmd(1+i))
	}
	return cmds
}

// ledgerSums is good sums.
func (m *mixer) ledgerSums() []int {
	sums, left := make([]int, 4), 400
	for _, account := range m.mixed(4)[:3] {
		part := m.pick(0, left, m.next(left+1), m.next(left+1))
		sums[account] += part
		left -= part
	}
	sums[m.next(4)] += left
	return sums
}

// effects is how often each code was told, and each account was moved from and
// to.
type effects struct {
	codes [4]int
	from  [4]int
	to    [4]int
}

func (e *effects) count(c impl.Cmd, told impl.Told) {
	e.codes[told.Code]++
	if told.Code == codeDone {
		e.from[c.From]++
		e.to[c.To]++
	}
}

// check reports what was met less than least times.
func (e *effects) check(t *testing.T, least int) {
	t.Helper()
	for _, counts := range [][4]int{e.codes, e.from, e.to} {
		if slices.Min(counts[:]) < least {
			t.Error("met too rarely:", *e)
		}
	}
}

func checkTotal(t *testing.T, sums []int) {
	t.Helper()
	if total, ok := impl.TotalOf(sums); !impl.GoodSums(sums) || !ok || total != impl.Accounts*impl.StartSum {
		t.Error("not the total that was there at first:", sums, total, ok)
	}
}

func TestPromise11OfDrawnRuns(t *testing.T) {
	var met effects
	for seed := range 300 {
		m := mixer(seed)
		var cmds []impl.Cmd
		var toldAll []impl.Told
		sums := impl.NewSums()
		checkTotal(t, sums)
		for range 60 {
			c := m.ledgerCmd(1 + m.next(999))
			after, told, ok := impl.ApplyCmd(sums, c)
			want, wantTold, _ := plainApply(sums, c)
			if !ok || !slices.Equal(after, want) || told != wantTold {
				t.Fatal("ApplyCmd", sums, c, after, told, ok, "not", want, wantTold)
			}
			checkTotal(t, after)
			met.count(c, told)
			sums, cmds, toldAll = after, append(cmds, c), append(toldAll, told)
			checkPlayedCmds(t, cmds, sums, toldAll...)
		}
	}
	met.check(t, 200)
}

func TestPromise11TotalIsKept(t *testing.T) {
	cmds := someCmds([]int{1, 999}, []int{1, 2, 99, 100, 101, 200, 399, 400, 401, 1000})
	for _, sums := range someSums(0, 1, 99, 100, 101, 200, 399, 400) {
		for _, c := range cmds {
			after, _, ok := impl.ApplyCmd(sums, c)
			if !ok {
				t.Error("ApplyCmd", sums, c)
			}
			checkTotal(t, after)
		}
	}
}

// checkCommute reports where two commands do or are told something else in the
// other order.
func checkCommute(t *testing.T, sums []int, a, b impl.Cmd) {
	t.Helper()
	afterA, toldA, okA := impl.ApplyCmd(sums, a)
	afterAB, toldB, okAB := impl.ApplyCmd(afterA, b)
	afterB, toldFirstB, okB := impl.ApplyCmd(sums, b)
	afterBA, toldLastA, okBA := impl.ApplyCmd(afterB, a)
	if !okA || !okAB || !okB || !okBA || !slices.Equal(afterAB, afterBA) || toldA != toldLastA || toldB != toldFirstB {
		t.Error("do not commute:", sums, a, b, afterAB, afterBA, toldA, toldLastA, toldFirstB, toldB)
	}
	checkTotal(t, afterAB)
}

func TestPromise11CommandsCommute(t *testing.T) {
	firsts := someCmds([]int{1}, []int{1, 99, 100, 101, 400, 1000})
	seconds := someCmds([]int{2}, []int{1, 50, 100, 101, 200, 1000})
	all := someSums(0, 1, 50, 100, 101, 300, 400)
	for _, a := range firsts {
		for _, b := range seconds {
			if interfere, ok := impl.Interfere(a, b); interfere || !ok {
				continue
			}
			for _, sums := range all {
				checkCommute(t, sums, a, b)
			}
			// Of CmNone twice TellsSame tells nothing.
			if a != b {
				checkTellsSame(t, []impl.Cmd{a, b}, []impl.Cmd{b, a}, true)
			}
		}
	}
}

func TestPromise11CommandsCommuteInDrawnRuns(t *testing.T) {
	pairs := 0
	m := mixer(11)
	for range 20000 {
		a, b := m.ledgerCmd(1), m.ledgerCmd(2)
		if interfere, _ := impl.Interfere(a, b); interfere {
			continue
		}
		pairs++
		checkCommute(t, m.ledgerSums(), a, b)
	}
	if pairs < 4000 {
		t.Error("too few pairs:", pairs)
	}
}

// exchange exchanges neighbours that do not interfere, again and again, and tells
// how many it did.
func (m *mixer) exchange(l []impl.Cmd, times int) ([]impl.Cmd, int) {
	changed, count := slices.Clone(l), 0
	if len(l) < 2 {
		return changed, count
	}
	for range times {
		at := m.next(len(l) - 1)
		if !plainInterfere(changed[at], changed[at+1]) {
			changed[at], changed[at+1] = changed[at+1], changed[at]
			count++
		}
	}
	return changed, count
}

// withoutNones leaves out CmNone but the first one, so that no command is there
// twice.
func withoutNones(l []impl.Cmd) []impl.Cmd {
	first := slices.Index(l, impl.Cmd{})
	var kept []impl.Cmd
	for i, c := range l {
		if c != (impl.Cmd{}) || i == first {
			kept = append(kept, c)
		}
	}
	return kept
}

func TestPromise11OrderOfThoseThatDoNotInterfere(t *testing.T) {
	exchanged := 0
	for seed := range 400 {
		m := mixer(seed)
		l := withoutNones(m.ledgerCmds(10 + m.next(51)))
		changed, count := m.exchange(l, 400)
		exchanged += count
		checkTellsSame(t, l, changed, true)
		first, _, _ := impl.PlayCmds(l)
		if second, _, ok := impl.PlayCmds(changed); !ok || !slices.Equal(first, second) {
			t.Error("other sums:", first, second, ok, "of", l, changed)
		}
	}
	if exchanged < 20000 {
		t.Error("too few exchanged:", exchanged)
	}
}

// otherList is a list much like l: often with the same commands in an order
// that does not differ much.
func (m *mixer) otherList(l []impl.Cmd) []impl.Cmd {
	other, _ := m.exchange(l, m.next(20))
	if len(l) == 0 {
		return other
	}
	for range m.next(3) {
		i, j := m.next(len(l)), m.next(len(l))
		other[i], other[j] = other[j], other[i]
	}
	switch m.next(16) {
	case 0:
		return other[1:]
	case 1:
		return append(other, read(999, m.next(4)))
	case 2:
		other[m.next(len(l))] = other[m.next(len(l))]
	case 3:
		*fieldOfCmd(&other[m.next(len(l))], m.next(5)) += m.pick(-1, 1)
	}
	return other
}

func fieldOfCmd(c *impl.Cmd, field int) *int {
	return []*int{&c.Kind, &c.Id, &c.From, &c.To, &c.Amount}[field]
}

func TestTellsSameOfDrawnLists(t *testing.T) {
	met := map[[2]bool]int{}
	for seed := range 4000 {
		m := mixer(seed)
		a := m.ledgerCmds(m.pick(0, 1, 2, 3, 4, 5, 6, 8, 10, 20, 59, 60, 61))
		if m.next(3) > 0 {
			a = withoutNones(a)
		}
		b := m.otherList(a)
		want, wantOk := plainTellsSame(a, b)
		if got, ok := impl.TellsSame(a, b); got != want || ok != wantOk {
			t.Error("TellsSame", a, b, got, ok, "not", want, wantOk)
		}
		met[[2]bool{want, wantOk}]++
	}
	for _, answers := range [][2]bool{{true, true}, {false, true}, {false, false}} {
		if met[answers] < 300 {
			t.Error("met too rarely:", met)
		}
	}
}
