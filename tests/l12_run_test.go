package tests

import (
	"testing"

	"loop.example/g00698/impl"
)

// bookRun does steps in a net, and looks after each at what is told.
type bookRun struct {
	*player
}

func newBookRun(t *testing.T, n int) bookRun {
	r := bookRun{newPlayer(t, n)}
	r.look = r.checkBooks
	r.checkBooks()
	return r
}

func booksOf(t *testing.T, x impl.Net) [][]impl.Entry {
	t.Helper()
	var books [][]impl.Entry
	for _, one := range x.Reps {
		sums, book, ok := impl.BookOf(one.Table)
		if !ok {
			t.Error("no book:", linesOf(x))
		}
		checkTotal(t, sums)
		books = append(books, book)
	}
	return books
}

// checkBooks reports where two replicas tell a command otherwise, or what one
// has done of an account is not how what the other one has done begins, nor the
// other way round.
func (r bookRun) checkBooks() {
	r.t.Helper()
	if same, ok := impl.SameTold(r.x); !ok || !same {
		r.t.Errorf("SameTold: %v, %v of %q", same, ok, linesOf(r.x))
	}
	books, toldTo := booksOf(r.t, r.x), map[instance]impl.Entry{}
	for i, book := range books {
		for _, one := range book {
			at := instance{one.Rep, one.No}
			if known, isKnown := toldTo[at]; isKnown && known != one {
				r.t.Errorf("told otherwise: %v and %v of %q", known, one, linesOf(r.x))
			}
			toldTo[at] = one
		}
		for _, other := range books[:i] {
			for account := range impl.Accounts {
				r.checkBegin(account, book, other)
			}
		}
	}
}

func (r bookRun) checkBegin(account int, book, other []impl.Entry) {
	r.t.Helper()
	first, isFirst := impl.AccountOf(book, account)
	second, isSecond := impl.AccountOf(other, account)
	begins, isFirstOk := impl.PrefixOf(first, second)
	goesOn, isSecondOk := impl.PrefixOf(second, first)
	if !isFirst || !isSecond || !isFirstOk || !isSecondOk || !begins && !goesOn {
		r.t.Errorf("account %d: neither %v nor %v begins as the other one, of %q", account, first, second, linesOf(r.x))
	}
}

// checkTold reports an instance that a replica's ToldOf tells otherwise than the
// book of another one.
func (r bookRun) checkTold() {
	r.t.Helper()
	for _, book := range booksOf(r.t, r.x) {
		for _, one := range book {
			for _, other := range r.x.Reps {
				if of, ok := impl.ToldOf(other.Table, one.Rep, one.No); ok && of != one.Told {
					r.t.Errorf("ToldOf: %v, not as %v, of %q", of, one, linesOf(r.x))
				}
			}
		}
	}
}

// checkEnd reports replicas whose books are not this one.
func (r bookRun) checkEnd(sums []int, book ...impl.Entry) {
	r.t.Helper()
	for me, one := range r.x.Reps {
		checkBookOf(r.t, "of replica "+string(rune('0'+me)), one.Table, sums, book...)
	}
	r.checkPlayed()
}

func TestPromise12OfTwoAtOnce(t *testing.T) {
	for _, n := range groups {
		give, more := move(1, 0, 1, 60), move(2, 0, 2, 50)
		first, last := instance{0, 1}, instance{n - 1, 1}
		r := newBookRun(t, n)
		r.must(submitAt(n-1, more), submitAt(0, give))
		r.takeAll()
		// They hang on each other with Seqs that are alike.
		r.checkEnd([]int{40, 160, 100, 100}, entry(first, give, told(codeDone)), entry(last, more, told(codePoor)))

		r = newBookRun(t, n)
		r.must(submitAt(n-1, more))
		r.takeAll()
		r.must(submitAt(0, give))
		r.takeAll()
		// The later one knows of the one ahead.
		r.checkEnd([]int{50, 100, 150, 100}, entry(last, more, told(codeDone)), entry(first, give, told(codePoor)))

		r = newBookRun(t, n)
		r.must(submitAt(0, give), submitAt(0, read(3, 1)), submitAt(n-1, move(4, 3, 2, 100)))
		r.takeAll()
		r.checkEnd([]int{40, 160, 200, 0}, entry(first, give, told(codeDone)), entry(instance{0, 2}, read(3, 1), toldSum(160)), entry(last, move(4, 3, 2, 100), told(codeDone)))
	}
}

// TestPromise12OfALateOne has a replica that hears of the second command first:
// it tells nothing of it until it knows of the one on which that hangs.
func TestPromise12OfALateOne(t *testing.T) {
	for _, n := range groups {
		give, look := move(1, 0, 1, 60), read(2, 1)
		first, second := instance{0, 1}, instance{1, 1}
		r := newBookRun(t, n)
		r.must(submitAt(0, give))
		for _, s := range []int{impl.MsPre, impl.MsPreOk} {
			r.each(impl.NtTake, s)
		}
		late := n - 1
		for at := len(r.x.Bag) - 1; at >= 0; at-- {
			if r.x.Bag[at].To != late {
				r.must(stepAt(impl.NtTake, at))
			}
		}
		held := r.x.Bag[0]
		r.must(submitAt(1, look))
		for len(r.x.Bag) > 1 {
			r.must(stepAt(impl.NtTake, 1))
		}
		if held.Kind != impl.MsCom || held.To != late {
			t.Error("held:", held)
		}
		for me, one := range r.x.Reps {
			if of, ok := impl.ToldOf(one.Table, 1, 1); ok != (me != late) || ok && of != toldSum(160) {
				t.Error("replica", me, "tells", of, ok, "in", linesOf(r.x))
			}
		}
		checkBookOf(t, "of the late one", r.x.Reps[late].Table, atFirst)
		r.takeAll()
		r.checkEnd([]int{40, 160, 100, 100}, entry(first, give, told(codeDone)), entry(second, look, toldSum(160)))
	}
}

// TestPromise12OfAForgottenOne has a replica that crashes with what it leads:
// one that recovers it settles that nothing is done.
func TestPromise12OfAForgottenOne(t *testing.T) {
	for _, n := range groups {
		r := newBookRun(t, n)
		r.must(submitAt(0, move(1, 0, 1, 60)))
		for len(r.x.Bag) > 0 {
			r.must(stepAt(impl.NtLose, 0))
		}
		r.must(stepAt(impl.NtCrash, 0), stepOf(impl.NtRecover, 1, 0, 1))
		for at := len(r.x.Bag) - 1; at >= 0; at-- {
			if r.x.Bag[at].To == 0 {
				r.must(stepAt(impl.NtLose, at))
			}
		}
		r.takeAll()
		r.must(submitAt(0, read(2, 0)))
		r.takeAll()
		r.checkEnd(atFirst, entry(instance{0, 1}, impl.Cmd{}, told(codeNone)), entry(instance{0, 2}, read(2, 0), toldSum(100)))
	}
}

// ledgerStep is a step of a drawn run in which all accounts are moved from and
// to, and no two commands have the same id.
func (m *mixer) ledgerStep(x impl.Net, id int) impl.Step {
	s := m.calmStep(x, 1+id%3, m.pick(2, 10, 50))
	if s.Kind == impl.NtSubmit && impl.GoodCmd(s.Cmd) && m.next(10) > 0 {
		s.Cmd = m.ledgerCmd(id)
	}
	return s
}

// tidings counts what was told in drawn runs: by codes what two replicas tell,
// and pairs of books of which one has done more of an account than the other.
type tidings struct {
	codes  [4]int
	ahead  int
	turned int
}

func (c *tidings) add(t *testing.T, x impl.Net) {
	t.Helper()
	books := booksOf(t, x)
	for i, book := range books {
		for at, one := range book {
			for _, other := range books[:i] {
				if _, ok := plainTold(other, instance{one.Rep, one.No}); ok {
					c.codes[one.Told.Code]++
				}
			}
			if at > 0 && one.Rep < book[at-1].Rep {
				c.turned++
			}
		}
		for _, other := range books[:i] {
			for account := range impl.Accounts {
				first, _ := impl.AccountOf(book, account)
				second, _ := impl.AccountOf(other, account)
				if len(first) != len(second) {
					c.ahead++
				}
			}
		}
	}
}

func TestPromise12OfDrawnRuns(t *testing.T) {
	for _, n := range groups {
		c, met := newTally(), tidings{}
		for seed := range 100 {
			m, r := mixer(5000*n+seed), newBookRun(t, n)
			for i := range impl.MaxSteps {
				s := m.ledgerStep(r.x, 1+i)
				c.count(s, r.try(s))
			}
			r.checkPlayed()
			r.checkTold()
			met.add(t, r.x)
			r.takeAll()
			r.checkTold()
			met.add(t, r.x)
		}
		c.check(t, 10)
		if min(met.codes[codeNone], met.codes[codeDone], met.codes[codePoor], met.codes[codeSum], met.ahead, met.turned) < 50 {
			t.Error("in groups of", n, "were met", met)
		}
	}
}
