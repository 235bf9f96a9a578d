package impl

import (
	"iter"
	"slices"
)

const MaxN = 5

// An even group needs the majority of the next larger odd one and survives no
// more failures than the next smaller one, so only odd sizes are groups.
const leastGroup = 3

const maxMeetLists = 40

func IsGroup(n int) bool {
	return n == leastGroup || n == MaxN
}

func Majority(n int) (int, bool) {
	if !IsGroup(n) {
		return 0, false
	}
	return n/2 + 1, true
}

func SetsOf(n int, k int) ([][]int, bool) {
	if !IsGroup(n) || k < 0 || k > n {
		return nil, false
	}
	return slices.Collect(risingLists(n, k)), true
}

func AllMeet(a [][]int, b [][]int) (bool, bool) {
	if len(a) > maxMeetLists || len(b) > maxMeetLists {
		return false, false
	}
	for _, list := range a {
		// The lists may be of any length: asking a map keeps the time linear.
		numbers := numbersOf(list)
		for _, other := range b {
			if !hasAny(numbers, other) {
				return false, true
			}
		}
	}
	return true, true
}

func LeastMeeting(n int) (int, bool) {
	if !IsGroup(n) {
		return 0, false
	}
	for k := range n {
		sets, _ := SetsOf(n, k)
		if meet, _ := AllMeet(sets, sets); meet {
			return k, true
		}
	}
	// The one set of all n replicas meets itself.
	return n, true
}

func WithoutOnes(n int, gone []int) ([]int, bool) {
	if !IsGroup(n) {
		return nil, false
	}
	var isGone [MaxN]bool
	for _, one := range gone {
		if !isReplica(n, one) {
			return nil, false
		}
		isGone[one] = true
	}
	var left []int
	for one := range n {
		if !isGone[one] {
			left = append(left, one)
		}
	}
	return left, true
}

func isReplica(n int, number int) bool {
	return IsGroup(n) && number >= 0 && number < n
}

func areRisingReplicas(n int, list []int) bool {
	last := -1
	for _, rep := range list {
		if rep <= last || !isReplica(n, rep) {
			return false
		}
		last = rep
	}
	return true
}

// risingLists yields the rising lists of k numbers below n, for k in 0..n,
// themselves rising. Each is a copy, so that whoever ranges may keep it.
func risingLists(n int, k int) iter.Seq[[]int] {
	return func(yield func([]int) bool) {
		list := make([]int, k)
		for i := range k {
			list[i] = i
		}
		for more := true; more; more = stepRising(list, n) {
			if !yield(slices.Clone(list)) {
				return
			}
		}
	}
}

// stepRising turns list into the rising list of numbers below n that follows
// it, and tells whether there is one.
func stepRising(list []int, n int) bool {
	for behind := range len(list) {
		at := len(list) - 1 - behind
		// The places behind this one need the numbers from n-behind on.
		if list[at]+1 >= n-behind {
			continue
		}
		next := list[at] + 1
		for i := at; i < len(list); i++ {
			list[i] = next + i - at
		}
		return true
	}
	return false
}

func numbersOf(list []int) map[int]bool {
	numbers := make(map[int]bool, len(list))
	for _, number := range list {
		numbers[number] = true
	}
	return numbers
}

func hasAny(numbers map[int]bool, list []int) bool {
	for _, number := range list {
		if numbers[number] {
			return true
		}
	}
	return false
}
