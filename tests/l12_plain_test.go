package tests

import (
	"slices"

	"loop.example/g00698/impl"
)

// What the document says of chapter 12, written out again in another way.

func entry(at instance, c impl.Cmd, of impl.Told) impl.Entry {
	return impl.Entry{Rep: at[0], No: at[1], Cmd: c, Told: of}
}

// plainBook is the book of a good table: the commands in their order, of which
// each is told what the list up to it tells.
func plainBook(x impl.Table) ([]int, []impl.Entry) {
	var cmds []impl.Cmd
	var book []impl.Entry
	for _, at := range plainOrderIn(x) {
		c := plainRow(x, at).Cmd
		cmds = append(cmds, c)
		_, toldAll, _ := plainPlayCmds(cmds)
		book = append(book, entry(at, c, toldAll[len(toldAll)-1]))
	}
	sums, _, _ := plainPlayCmds(cmds)
	return sums, book
}

// plainTold is what a book tells of an instance.
func plainTold(book []impl.Entry, at instance) (impl.Told, bool) {
	for _, one := range book {
		if one.Rep == at[0] && one.No == at[1] {
			return one.Told, true
		}
	}
	return impl.Told{}, false
}

// plainSameTold looks at each instance in the books of a good net.
func plainSameTold(x impl.Net) bool {
	var books [][]impl.Entry
	for _, r := range x.Reps {
		_, book := plainBook(r.Table)
		books = append(books, book)
	}
	for _, at := range instancesOf(len(x.Reps)) {
		var all []impl.Told
		for _, book := range books {
			if of, ok := plainTold(book, at); ok {
				all = append(all, of)
			}
		}
		if len(slices.Compact(all)) > 1 {
			return false
		}
	}
	return true
}

func plainAccount(l []impl.Entry, account int) ([]impl.Entry, bool) {
	isBad := func(one impl.Entry) bool { return !impl.GoodCmd(one.Cmd) }
	if account < 0 || account > 3 || len(l) > 60 || slices.ContainsFunc(l, isBad) {
		return nil, false
	}
	isElsewhere := func(one impl.Entry) bool { return !slices.Contains(plainTouches(one.Cmd), account) }
	return slices.DeleteFunc(slices.Clone(l), isElsewhere), true
}

func plainPrefix(a, b []impl.Entry) (bool, bool) {
	if len(a) > 60 || len(b) > 60 {
		return false, false
	}
	for i, one := range a {
		if i >= len(b) || one != b[i] {
			return false, true
		}
	}
	return true, true
}

// bookArgs is what the functions of chapter 12 are given: AccountOf the first
// list, PrefixOf both.
type bookArgs struct {
	table   impl.Table
	at      instance
	x       impl.Net
	a, b    []impl.Entry
	account int
}

// bookAnswers is what they answer: ok are those of BookOf, ToldOf, SameTold,
// AccountOf and PrefixOf.
type bookAnswers struct {
	sums     []int
	book     []impl.Entry
	told     impl.Told
	isSame   bool
	touching []impl.Entry
	isPrefix bool
	ok       [5]bool
}

func (a bookArgs) answers() bookAnswers {
	var r bookAnswers
	r.sums, r.book, r.ok[0] = impl.BookOf(a.table)
	r.told, r.ok[1] = impl.ToldOf(a.table, a.at[0], a.at[1])
	r.isSame, r.ok[2] = impl.SameTold(a.x)
	r.touching, r.ok[3] = impl.AccountOf(a.a, a.account)
	r.isPrefix, r.ok[4] = impl.PrefixOf(a.a, a.b)
	return r
}

func (a bookArgs) plainAnswers() bookAnswers {
	var r bookAnswers
	if impl.GoodTable(a.table) {
		r.ok[0] = true
		r.sums, r.book = plainBook(a.table)
		r.told, r.ok[1] = plainTold(r.book, a.at)
	}
	if plainGoodNet(a.x) {
		r.isSame, r.ok[2] = plainSameTold(a.x), true
	}
	r.touching, r.ok[3] = plainAccount(a.a, a.account)
	r.isPrefix, r.ok[4] = plainPrefix(a.a, a.b)
	return r
}

func (r bookAnswers) same(other bookAnswers) bool {
	return r.ok == other.ok && r.isSame == other.isSame && r.isPrefix == other.isPrefix && r.told == other.told &&
		slices.Equal(r.sums, other.sums) && slices.Equal(r.book, other.book) && slices.Equal(r.touching, other.touching)
}

func (a bookArgs) clone() bookArgs {
	return bookArgs{cloneTable(a.table), a.at, cloneNet(a.x), slices.Clone(a.a), slices.Clone(a.b), a.account}
}

func (a bookArgs) same(b bookArgs) bool {
	return sameTable(a.table, b.table) && a.at == b.at && sameNet(a.x, b.x) &&
		slices.Equal(a.a, b.a) && slices.Equal(a.b, b.b) && a.account == b.account
}
