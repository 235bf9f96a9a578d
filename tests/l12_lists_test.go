package tests

import (
	"math"
	"slices"
	"testing"

	"loop.example/g00698/impl"
)

func checkAccountOf(t *testing.T, l []impl.Entry, account int, want ...impl.Entry) {
	t.Helper()
	if got, ok := impl.AccountOf(l, account); !ok || !slices.Equal(got, want) {
		t.Error("AccountOf", account, l, got, ok, "not", want)
	}
}

func checkNoAccount(t *testing.T, l []impl.Entry, account int) {
	t.Helper()
	if got, ok := impl.AccountOf(l, account); ok || len(got) != 0 {
		t.Error("AccountOf", account, len(l), l, got, ok)
	}
}

// someEntries has a move of each account to another one, a read of each, and
// some that touch nothing.
func someEntries() []impl.Entry {
	return []impl.Entry{
		entry(instance{0, 1}, move(1, 0, 1, 5), told(codeDone)),
		entry(instance{1, 1}, read(2, 0), toldSum(95)),
		entry(instance{1, 2}, impl.Cmd{}, told(codeNone)),
		entry(instance{2, 1}, move(3, 1, 2, 500), told(codePoor)),
		entry(instance{0, 2}, read(4, 1), toldSum(105)),
		entry(instance{2, 2}, move(5, 2, 3, 7), told(codeDone)),
		entry(instance{0, 3}, read(6, 2), toldSum(93)),
		entry(instance{2, 3}, impl.Cmd{}, told(codeNone)),
		entry(instance{1, 3}, move(7, 3, 0, 107), told(codeDone)),
		entry(instance{1, 4}, read(8, 3), toldSum(0)),
	}
}

func TestAccountOf(t *testing.T) {
	l := someEntries()
	checkAccountOf(t, l, 0, l[0], l[1], l[8])
	checkAccountOf(t, l, 1, l[0], l[3], l[4])
	checkAccountOf(t, l, 2, l[3], l[5], l[6])
	checkAccountOf(t, l, 3, l[5], l[8], l[9])
	for account := range 4 {
		checkAccountOf(t, nil, account)
		checkAccountOf(t, []impl.Entry{}, account)
		checkAccountOf(t, []impl.Entry{l[2], l[7]}, account)
		for _, one := range l {
			if slices.Contains(plainTouches(one.Cmd), account) {
				checkAccountOf(t, []impl.Entry{one}, account, one)
				// The same one again is told again.
				checkAccountOf(t, []impl.Entry{one, l[2], one}, account, one, one)
			} else {
				checkAccountOf(t, []impl.Entry{one}, account)
			}
		}
	}
	back := slices.Clone(l)
	slices.Reverse(back)
	checkAccountOf(t, back, 0, l[8], l[1], l[0])
}

// TestAccountOfOtherFields has entries whose commands are good, but all else is
// none of a book: that does not count.
func TestAccountOfOtherFields(t *testing.T) {
	for _, number := range []int{math.MinInt, -1, 0, 4, 7, 1 << 32, math.MaxInt} {
		one := impl.Entry{Rep: number, No: -number, Cmd: move(1, 2, 3, 5), Told: impl.Told{Code: number, Sum: number}}
		checkAccountOf(t, []impl.Entry{one}, 2, one)
		checkAccountOf(t, []impl.Entry{one}, 3, one)
		checkAccountOf(t, []impl.Entry{one}, 0)
		checkAccountOf(t, []impl.Entry{one}, 1)
	}
}

func TestAccountOfInvalid(t *testing.T) {
	l := someEntries()
	for _, account := range []int{math.MinInt, -4, -1, 4, 5, 1 << 32, 1<<32 + 1, math.MaxInt} {
		checkNoAccount(t, l, account)
		checkNoAccount(t, nil, account)
		checkNoAccount(t, l[2:3], account)
	}
	for i, bad := range badCmds() {
		for account := range 4 {
			for _, at := range []int{0, 1 + i%8, len(l)} {
				checkNoAccount(t, slices.Insert(slices.Clone(l), at, entry(instance{0, 1}, bad, told(codeDone))), account)
			}
			checkNoAccount(t, []impl.Entry{{Cmd: bad}}, account)
		}
	}
}

func TestAccountOfLimit(t *testing.T) {
	long := slices.Repeat(someEntries(), 7)
	for account := range 4 {
		var want []impl.Entry
		for _, one := range long[:60] {
			if slices.Contains(plainTouches(one.Cmd), account) {
				want = append(want, one)
			}
		}
		checkAccountOf(t, long[:60], account, want...)
		checkAccountOf(t, slices.Repeat(want[:1], 60), account, slices.Repeat(want[:1], 60)...)
		checkAccountOf(t, make([]impl.Entry, 60), account)
		checkNoAccount(t, long[:61], account)
		checkNoAccount(t, long, account)
		checkNoAccount(t, make([]impl.Entry, 61), account)
		checkNoAccount(t, make([]impl.Entry, 1<<16), account)
	}
}

func checkPrefixOf(t *testing.T, a, b []impl.Entry, want bool) {
	t.Helper()
	if got, ok := impl.PrefixOf(a, b); !ok || got != want {
		t.Error("PrefixOf", a, b, got, ok, "not", want)
	}
}

func checkNoPrefix(t *testing.T, a, b []impl.Entry) {
	t.Helper()
	if got, ok := impl.PrefixOf(a, b); ok || got {
		t.Error("PrefixOf", len(a), len(b), a, b, got, ok)
	}
}

func TestPrefixOf(t *testing.T) {
	l := someEntries()
	checkPrefixOf(t, nil, nil, true)
	checkPrefixOf(t, nil, []impl.Entry{}, true)
	checkPrefixOf(t, []impl.Entry{}, nil, true)
	for count := range len(l) + 1 {
		for other := range len(l) + 1 {
			checkPrefixOf(t, l[:count], slices.Clone(l[:other]), count <= other)
		}
		if count < len(l) {
			checkPrefixOf(t, l[count:], l, count == 0)
		}
	}
	checkPrefixOf(t, []impl.Entry{l[1], l[0]}, l, false)
	checkPrefixOf(t, []impl.Entry{l[0], l[2]}, l, false)
	checkPrefixOf(t, []impl.Entry{l[0], l[0]}, []impl.Entry{l[0]}, false)
	checkPrefixOf(t, []impl.Entry{l[0], l[0]}, []impl.Entry{l[0], l[0], l[0]}, true)
	checkPrefixOf(t, []impl.Entry{{}}, nil, false)
	checkPrefixOf(t, []impl.Entry{{}}, []impl.Entry{{}}, true)
}

// fieldsOfEntry is each number of an entry.
func fieldsOfEntry(one *impl.Entry) []*int {
	fields := []*int{&one.Rep, &one.No, &one.Told.Code, &one.Told.Sum}
	for field := range 5 {
		fields = append(fields, fieldOfCmd(&one.Cmd, field))
	}
	return fields
}

// TestPrefixOfEachField has lists that differ in one field of one entry alone.
// What is in it need not be good.
func TestPrefixOfEachField(t *testing.T) {
	l := someEntries()
	for at := range l {
		for field := range fieldsOfEntry(&l[at]) {
			for _, number := range []int{math.MinInt, -1, 1 << 32, math.MaxInt} {
				changed := slices.Clone(l)
				*fieldsOfEntry(&changed[at])[field] = number
				for count := range len(l) + 1 {
					checkPrefixOf(t, changed[:count], l, count <= at)
					checkPrefixOf(t, l[:count], changed, count <= at)
					checkPrefixOf(t, changed[:count], slices.Clone(changed), true)
				}
			}
		}
	}
}

func TestPrefixOfLimit(t *testing.T) {
	long := slices.Repeat(someEntries(), 7)
	checkPrefixOf(t, long[:60], slices.Clone(long[:60]), true)
	checkPrefixOf(t, long[:59], long[:60], true)
	checkPrefixOf(t, long[:60], long[:59], false)
	checkPrefixOf(t, nil, long[:60], true)
	checkPrefixOf(t, long[:60], nil, false)
	last := slices.Clone(long[:60])
	last[59].Told.Sum++
	checkPrefixOf(t, long[:60], last, false)
	checkPrefixOf(t, long[:59], last, true)
	for _, count := range []int{61, 62, 70} {
		checkNoPrefix(t, long[:count], long[:count])
		checkNoPrefix(t, long[:60], long[:count])
		checkNoPrefix(t, long[:count], long[:60])
		checkNoPrefix(t, nil, long[:count])
		checkNoPrefix(t, long[:count], nil)
	}
	checkNoPrefix(t, make([]impl.Entry, 1<<16), nil)
	checkNoPrefix(t, nil, make([]impl.Entry, 1<<16))
}
