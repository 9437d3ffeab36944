package tests

import (
	"math"
	"slices"
	"testing"

	"loop.example/onecounter/impl"
)

// list makes customers of pairs: when one comes, and what this one needs.
func list(pairs ...int) []impl.Customer {
	var all []impl.Customer
	for i := 0; i+1 < len(pairs); i += 2 {
		all = append(all, impl.Customer{Come: pairs[i], Need: pairs[i+1]})
	}
	return all
}

// same makes so many customers who are alike.
func same(many, come, need int) []impl.Customer {
	return slices.Repeat(list(come, need), many)
}

// goodByRule tells customers by the words of the document, and not by the program.
func goodByRule(all []impl.Customer) bool {
	if len(all) > 8 {
		return false
	}
	for i, c := range all {
		if c.Come < 0 || c.Come > 60 || c.Need < 1 || c.Need > 9 {
			return false
		}
		for _, ahead := range all[:i] {
			if ahead.Come > c.Come {
				return false
			}
		}
	}
	return true
}

// shortLists has all lists of up to two customers with each number at, inside and past its bounds, and some of three.
func shortLists() [][]impl.Customer {
	var one []impl.Customer
	for _, come := range []int{math.MinInt, -1, 0, 1, 7, 59, 60, 61, math.MaxInt} {
		for _, need := range []int{math.MinInt, -1, 0, 1, 5, 9, 10, math.MaxInt} {
			one = append(one, impl.Customer{Come: come, Need: need})
		}
	}
	lists := [][]impl.Customer{nil, {}}
	for _, a := range one {
		lists = append(lists, []impl.Customer{a})
		for _, b := range one {
			lists = append(lists, []impl.Customer{a, b}, []impl.Customer{{Come: 7, Need: 5}, a, b})
		}
	}
	return lists
}

// numbersFrom tells one number after the other below a bound, by a fixed rule.
func numbersFrom(seed uint32) func(below int) int {
	state := seed
	return func(below int) int {
		state = state*1664525 + 1013904223
		return int(state>>16) % below
	}
}

// longLists has customers of each number up to MaxCustomers, told by a fixed rule, with few and with many who come at the same time.
func longLists() [][]impl.Customer {
	var lists [][]impl.Customer
	next := numbersFrom(1)
	for many := 0; many <= 8; many++ {
		for _, latest := range []int{0, 2, 12, 30, 60} {
			for range 12 {
				var all []impl.Customer
				for range many {
					all = append(all, impl.Customer{Come: next(latest + 1), Need: 1 + next(9)})
				}
				slices.SortFunc(all, func(a, b impl.Customer) int { return a.Come - b.Come })
				lists = append(lists, all)
			}
		}
		lists = append(lists, same(many, 0, 1), same(many, 0, 9), same(many, 60, 9), same(many, 60, 1))
	}
	return lists
}

func goodLists() [][]impl.Customer {
	return slices.DeleteFunc(append(shortLists(), longLists()...), func(all []impl.Customer) bool { return !goodByRule(all) })
}

// badLists has all short lists that are none by the rule, and long ones that are none for one reason each.
func badLists() [][]impl.Customer {
	lists := slices.DeleteFunc(shortLists(), goodByRule)
	lists = append(lists, same(9, 0, 1), same(10, 60, 9), list(0, 1, 1, 1, 2, 1, 3, 1, 4, 1, 5, 1, 6, 1, 7, 1, 8, 1))
	for at := range 8 {
		for _, bad := range list(-1, 1, 61, 1, 5, 0, 5, 10) {
			all := same(8, 5, 3)
			all[at] = bad
			lists = append(lists, all)
		}
		if at > 0 {
			all := same(8, 5, 3)
			all[at].Come = 4
			lists = append(lists, all)
		}
	}
	return lists
}

// rowUntouched calls with a part of a longer row, and reports it if any of the longer row is written to.
func rowUntouched[T comparable](t *testing.T, row, more []T, call func(part []T)) {
	t.Helper()
	longer := append(slices.Clone(row), more...)
	before := slices.Clone(longer)
	call(longer[:len(row)])
	if !slices.Equal(longer, before) {
		t.Fatalf("an argument was written to: %v became %v", before, longer)
	}
}

// untouched calls with a part of a longer list, and reports it if any of the longer list is written to.
func untouched(t *testing.T, all []impl.Customer, call func(part []impl.Customer)) {
	t.Helper()
	rowUntouched(t, all, list(11, 1, 12, 2, 13, 3), call)
}

// scribbled writes to all the memory of a result, with its spare capacity.
func scribbled[T any](result []T, with T) {
	result = result[:cap(result)]
	for i := range result {
		result[i] = with
	}
}

// pastPlaces has places that no list of so many has.
func pastPlaces(many int) []int {
	return []int{math.MinInt, -many - 1, -1, many, many + 1, 8, 9, math.MaxInt}
}

// otherPlaces calls for customers with places that they do not have, and for others with any place.
func otherPlaces(call func(all []impl.Customer, at int)) {
	for _, all := range goodLists() {
		for _, at := range pastPlaces(len(all)) {
			call(all, at)
		}
	}
	for _, all := range badLists() {
		for at := range len(all) {
			call(all, at)
		}
		for _, at := range pastPlaces(len(all)) {
			call(all, at)
		}
	}
}

// sameForAll asks for all of a list, and for all again from the last one on, and reports it if a call leaves anything for a next one.
func sameForAll[T any](t *testing.T, list []T, answers func(one T) []int) {
	t.Helper()
	var first [][]int
	for _, one := range list {
		first = append(first, answers(one))
	}
	for i, one := range slices.Backward(list) {
		if again := answers(one); !slices.Equal(again, first[i]) {
			t.Fatalf("the answers for %v are %v, and were %v", one, again, first[i])
		}
	}
}

func sameAgain(t *testing.T, answers func(all []impl.Customer) []int) {
	t.Helper()
	sameForAll(t, append(goodLists(), badLists()...), answers)
}

func TestListsAreWhatTheyShouldBe(t *testing.T) {
	for _, all := range badLists() {
		if goodByRule(all) {
			t.Fatalf("not bad: %v", all)
		}
	}
	long, none := 0, 0
	for _, all := range goodLists() {
		if len(all) == 8 {
			long++
		}
		if len(all) == 0 {
			none++
		}
	}
	if long < 60 || none < 2 {
		t.Fatalf("%d lists of 8, %d of none", long, none)
	}
}
