package tests

import (
	"math"
	"slices"
	"testing"

	"loop.example/onecounter/impl"
)

// both makes customers of two counters of pairs: what one needs at the first counter, and at the second one.
func both(pairs ...int) []impl.Both {
	var all []impl.Both
	for i := 0; i+1 < len(pairs); i += 2 {
		all = append(all, impl.Both{First: pairs[i], Second: pairs[i+1]})
	}
	return all
}

// sameBoth makes so many customers of two counters who are alike.
func sameBoth(many, first, second int) []impl.Both {
	return slices.Repeat(both(first, second), many)
}

// otherWay has customers in the same order, with both needs exchanged.
func otherWay(all []impl.Both) []impl.Both {
	var other []impl.Both
	for _, one := range all {
		other = append(other, impl.Both{First: one.Second, Second: one.First})
	}
	return other
}

// bothByWords tells customers of two counters by the words of the document, and not by the program.
func bothByWords(all []impl.Both) bool {
	for _, one := range all {
		if one.First < 1 || one.First > 9 || one.Second < 1 || one.Second > 9 {
			return false
		}
	}
	return len(all) > 0 && len(all) < 7
}

// fewBoth has each customer alone, and each two of whom one has any needs, and the other one needs at, near and between the bounds.
func fewBoth() [][]impl.Both {
	var lists [][]impl.Both
	for first := 1; first <= 9; first++ {
		for second := 1; second <= 9; second++ {
			lists = append(lists, both(first, second))
			for _, a := range []int{1, 2, 5, 9} {
				for _, b := range []int{1, 4, 5, 9} {
					lists = append(lists, both(first, second, a, b), both(a, b, first, second))
				}
			}
		}
	}
	return lists
}

// moreBoth has customers of each number from three on, told by a fixed rule: any ones, ones of few needs, ones with both needs alike, ones who need no more at the first counter, ones who need more there, and ones with just one need for all at one counter.
func moreBoth() [][]impl.Both {
	next := numbersFrom(9)
	kinds := []func() impl.Both{
		func() impl.Both { return impl.Both{First: 1 + next(9), Second: 1 + next(9)} },
		func() impl.Both { return impl.Both{First: 1 + next(3), Second: 1 + next(3)} },
		func() impl.Both {
			need := 1 + next(9)
			return impl.Both{First: need, Second: need}
		},
		func() impl.Both {
			need := 1 + next(5)
			return impl.Both{First: need, Second: need + next(5)}
		},
		func() impl.Both {
			need := 1 + next(5)
			return impl.Both{First: need + 1 + next(4), Second: need}
		},
		func() impl.Both { return impl.Both{First: 4, Second: 1 + next(9)} },
		func() impl.Both { return impl.Both{First: 1 + next(9), Second: 4} },
	}
	var lists [][]impl.Both
	for many := 3; many <= 6; many++ {
		for _, kind := range kinds {
			for range 20 {
				var all []impl.Both
				for range many {
					all = append(all, kind())
				}
				lists = append(lists, all)
			}
		}
		lists = append(lists, sameBoth(many, 1, 1), sameBoth(many, 1, 9), sameBoth(many, 9, 1), sameBoth(many, 9, 9), sameBoth(many, 5, 4))
	}
	return lists
}

func goodBoth() [][]impl.Both {
	return append(fewBoth(), moreBoth()...)
}

// badBoth has customers that are none for one reason each, and some for more.
func badBoth() [][]impl.Both {
	lists := [][]impl.Both{nil, {}, sameBoth(7, 1, 1), sameBoth(7, 9, 9), sameBoth(8, 3, 3), sameBoth(100, 1, 1), both(0, 0), both(10, 10), both(-1, 10), sameBoth(6, math.MaxInt, math.MaxInt)}
	for many := 1; many <= 6; many++ {
		for at := range many {
			for _, need := range []int{math.MinInt, -1, 0, 10, math.MaxInt} {
				first, second := sameBoth(many, 5, 3), sameBoth(many, 5, 3)
				first[at].First, second[at].Second = need, need
				lists = append(lists, first, second)
			}
		}
	}
	return lists
}

// bothUntouched calls with a part of a longer list of customers and a part of a longer order, and reports it if any of either is written to.
func bothUntouched(t *testing.T, all []impl.Both, order []int, call func(part []impl.Both, row []int)) {
	t.Helper()
	rowUntouched(t, all, both(1, 2, 3, 4), func(part []impl.Both) {
		rowUntouched(t, order, []int{6, 0, -1}, func(row []int) { call(part, row) })
	})
}

func TestBothAreWhatTheyShouldBe(t *testing.T) {
	alike, front, back, mixed := 0, 0, 0, 0
	for _, all := range goodBoth() {
		if !bothByWords(all) {
			t.Fatalf("not good: %v", all)
		}
		more := 0
		for _, one := range all {
			if one.First > one.Second {
				more++
			}
		}
		switch {
		case len(all) < 3:
		case slices.Equal(all, otherWay(all)):
			alike++
		case more == 0:
			front++
		case more == len(all):
			back++
		default:
			mixed++
		}
	}
	if min(alike, front, back, mixed) < 50 {
		t.Fatalf("of three or more: %d lists with both needs alike, %d with no more at the first counter, %d with more there, %d of both kinds", alike, front, back, mixed)
	}
	for _, all := range badBoth() {
		if bothByWords(all) {
			t.Fatalf("not bad: %v", all)
		}
	}
}
