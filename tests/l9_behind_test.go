package tests

import (
	"math"
	"slices"
	"testing"

	"loop.example/onecounter/impl"
)

// leavesByWords serves unit by unit: the second counter has the first one of those who left the first counter before the unit, and are not done at the second one.
func leavesByWords(all []impl.Both) []int {
	var leaves []int
	left, atFirst, atSecond := 0, 0, 0
	for time := 1; len(leaves) < len(all); time++ {
		if done := len(leaves); done < left {
			atSecond++
			if atSecond == all[done].Second {
				leaves, atSecond = append(leaves, time), 0
			}
		}
		if left < len(all) {
			atFirst++
			if atFirst == all[left].First {
				left, atFirst = left+1, 0
			}
		}
	}
	return leaves
}

// wayByWords adds what all up to the one at a place need at the first counter, and what this one and all behind need at the second one.
func wayByWords(all []impl.Both, at int) int {
	way := 0
	for _, one := range all[:at+1] {
		way += one.First
	}
	for _, one := range all[at:] {
		way += one.Second
	}
	return way
}

func longestByWords(all []impl.Both) int {
	longest := 0
	for at := range all {
		longest = max(longest, wayByWords(all, at))
	}
	return longest
}

func arrangedByWords(all []impl.Both, order []int) []impl.Both {
	row := slices.Clone(all)
	for i, place := range order {
		row[i] = all[place]
	}
	return row
}

// leastWayByWords serves in each order unit by unit.
func leastWayByWords(all []impl.Both) int {
	least := math.MaxInt
	for _, order := range ordersOfSo(len(all)) {
		leaves := leavesByWords(arrangedByWords(all, order))
		least = min(least, leaves[len(leaves)-1])
	}
	return least
}

// needsAtBoth adds what all need at each counter.
func needsAtBoth(all []impl.Both) (int, int) {
	first, second := 0, 0
	for _, one := range all {
		first += one.First
		second += one.Second
	}
	return first, second
}

// bothCase has when each of customers leaves, the order by pairs, and the least way.
type bothCase struct {
	all    []impl.Both
	leaves []int
	order  []int
	least  int
}

func (c bothCase) longest() int {
	if len(c.leaves) == 0 {
		return -1
	}
	return c.leaves[len(c.leaves)-1]
}

func bothCases() []bothCase {
	one, six := []int{0}, []int{0, 1, 2, 3, 4, 5}
	return []bothCase{
		{both(3, 2, 1, 4, 5, 1), []int{5, 9, 10}, []int{1, 0, 2}, 10},
		{both(1, 1), []int{2}, one, 2}, {both(9, 9), []int{18}, one, 18}, {both(9, 1), []int{10}, one, 10}, {both(1, 9), []int{10}, one, 10}, {both(3, 5), []int{8}, one, 8},
		{sameBoth(6, 1, 1), []int{2, 3, 4, 5, 6, 7}, six, 7}, {sameBoth(6, 9, 9), []int{18, 27, 36, 45, 54, 63}, six, 63}, {sameBoth(6, 1, 9), []int{10, 19, 28, 37, 46, 55}, six, 55}, {sameBoth(6, 9, 1), []int{10, 19, 28, 37, 46, 55}, six, 55}, {sameBoth(2, 4, 4), []int{8, 12}, []int{0, 1}, 12},
		// The longest way leaves the first counter at the first place, at the last one, and between them.
		{both(1, 9, 1, 1), []int{10, 11}, []int{0, 1}, 11}, {both(9, 1, 5, 4), []int{10, 18}, []int{1, 0}, 15}, {both(2, 1, 8, 7, 1, 2), []int{3, 17, 19}, []int{2, 1, 0}, 17},
		// Needs that are alike: at the counter that tells the order, and then also at both.
		{both(2, 5, 2, 3, 1, 9), []int{7, 10, 19}, []int{2, 0, 1}, 18}, {both(2, 3, 2, 5), []int{5, 10}, []int{0, 1}, 10}, {both(2, 5, 2, 3), []int{7, 10}, []int{0, 1}, 10},
		{both(5, 2, 9, 2, 4, 3), []int{7, 16, 21}, []int{2, 0, 1}, 20}, {both(9, 2, 5, 2), []int{11, 16}, []int{0, 1}, 16}, {both(5, 2, 9, 2), []int{7, 16}, []int{0, 1}, 16},
		{both(3, 3, 4, 1, 2, 2), []int{6, 8, 11}, []int{2, 0, 1}, 10}, {both(4, 4, 3, 3), []int{8, 11}, []int{1, 0}, 11}, {both(6, 5, 6, 6, 6, 7), []int{11, 18, 25}, []int{1, 2, 0}, 24}, {both(2, 1, 1, 1, 2, 1, 1, 1), []int{3, 4, 6, 7}, []int{1, 3, 0, 2}, 7},
		// Each need alone is alike: at the first counter, and at the second one.
		{both(4, 9, 4, 1, 4, 5), []int{13, 14, 19}, []int{0, 2, 1}, 19}, {both(9, 4, 1, 4, 5, 4), []int{13, 17, 21}, []int{1, 0, 2}, 19},
		{both(4, 5, 4, 1, 9, 4, 1, 8, 5, 5, 2, 1), []int{9, 10, 21, 29, 34, 35}, []int{3, 0, 4, 2, 1, 5}, 26},
		{nil, nil, nil, -1}, {[]impl.Both{}, nil, nil, -1}, {sameBoth(7, 1, 1), nil, nil, -1}, {both(0, 1), nil, nil, -1}, {both(1, 0), nil, nil, -1}, {both(10, 1), nil, nil, -1}, {both(1, 10), nil, nil, -1}, {both(-1, 5), nil, nil, -1}, {both(5, -1), nil, nil, -1}, {both(3, 2, 1, 4, 5, 0), nil, nil, -1}, {both(3, 2, 10, 4, 5, 1), nil, nil, -1}, {both(math.MaxInt, math.MaxInt), nil, nil, -1}, {both(math.MinInt, 1, 1, math.MaxInt), nil, nil, -1},
	}
}

// Promise 40: one customer goes through both.
func TestPromise40BothOk(t *testing.T) {
	if !impl.BothOk(both(1, 1)) {
		t.Error("who needs 1 unit at each is none")
	}
	for _, c := range bothCases() {
		if got := impl.BothOk(c.all); got != (c.least > 0) {
			t.Errorf("BothOk(%v) is %v", c.all, got)
		}
	}
	for _, all := range goodBoth() {
		if !impl.BothOk(all) || !impl.BothOk(otherWay(all)) {
			t.Fatalf("not ok, or not with both needs exchanged: %v", all)
		}
	}
	for _, all := range badBoth() {
		if impl.BothOk(all) || impl.BothOk(otherWay(all)) {
			t.Fatalf("ok, or with both needs exchanged: %v", all)
		}
	}
}

// Promise 41: leaves are longest ways.
func TestPromise41LeavesBoth(t *testing.T) {
	for _, c := range bothCases() {
		if got := impl.LeavesBoth(c.all); !slices.Equal(got, c.leaves) {
			t.Errorf("LeavesBoth(%v) is %v, not %v", c.all, got, c.leaves)
		}
	}
	for _, all := range goodBoth() {
		checkLeavesBoth(t, all)
	}
	for _, all := range badBoth() {
		if got := impl.LeavesBoth(all); len(got) != 0 {
			t.Fatalf("LeavesBoth(%v) is %v, not nil", all, got)
		}
	}
}

func checkLeavesBoth(t *testing.T, all []impl.Both) {
	t.Helper()
	leaves := impl.LeavesBoth(all)
	if want := leavesByWords(all); !slices.Equal(leaves, want) {
		t.Fatalf("LeavesBoth(%v) is %v, not %v", all, leaves, want)
	}
	ahead := 0
	for at, one := range all {
		if longest := impl.LongestWay(all[:at+1]); leaves[at] != longest || leaves[at] < ahead+one.Second {
			t.Fatalf("LeavesBoth(%v) is %v, and LongestWay up to %d is %d", all, leaves, at, longest)
		}
		ahead = leaves[at]
	}
}

// Promise 42: backwards it takes as long.
func TestPromise42LongestWay(t *testing.T) {
	for _, c := range bothCases() {
		if got := impl.LongestWay(c.all); got != c.longest() {
			t.Errorf("LongestWay(%v) is %d, not %d", c.all, got, c.longest())
		}
	}
	for _, all := range goodBoth() {
		longest, back := impl.LongestWay(all), impl.LongestWay(impl.BackOf(all))
		if longest != longestByWords(all) || longest != back {
			t.Fatalf("LongestWay(%v) is %d, not %d, and backwards %d", all, longest, longestByWords(all), back)
		}
		if first, second := needsAtBoth(all); longest < max(first, second)+1 {
			t.Fatalf("LongestWay(%v) is %d, and they need %d, and %d", all, longest, first, second)
		}
	}
	for _, all := range badBoth() {
		if got := impl.LongestWay(all); got != -1 {
			t.Fatalf("LongestWay(%v) is %d, not -1", all, got)
		}
	}
}

func TestLongestWaysLeaveTheFirstCounterAtEachPlace(t *testing.T) {
	for many := 1; many <= 6; many++ {
		for place := range many {
			found := slices.ContainsFunc(goodBoth(), func(all []impl.Both) bool {
				if len(all) != many {
					return false
				}
				longest, only := longestByWords(all), true
				for at := range all {
					only = only && (wayByWords(all, at) == longest) == (at == place)
				}
				return only
			})
			if !found {
				t.Errorf("of no list of %d the only longest way leaves the first counter at %d", many, place)
			}
		}
	}
}

// Promise 43: back twice is as before.
func TestPromise43BackOf(t *testing.T) {
	cases := []struct{ all, back []impl.Both }{
		{both(3, 2, 1, 4, 5, 1), both(1, 5, 4, 1, 2, 3)}, {both(1, 9), both(9, 1)}, {both(4, 4), both(4, 4)}, {both(2, 7, 7, 2), both(2, 7, 7, 2)}, {sameBoth(6, 1, 9), sameBoth(6, 9, 1)}, {both(1, 2, 3, 4, 5, 6, 7, 8, 9, 1, 2, 3), both(3, 2, 1, 9, 8, 7, 6, 5, 4, 3, 2, 1)},
		{nil, nil}, {[]impl.Both{}, nil}, {both(0, 1), nil}, {both(1, 10), nil}, {both(1, 1, 10, 1), nil}, {both(1, 0, 1, 1), nil}, {sameBoth(7, 1, 1), nil},
	}
	for _, c := range cases {
		if got := impl.BackOf(c.all); !slices.Equal(got, c.back) {
			t.Errorf("BackOf(%v) is %v, not %v", c.all, got, c.back)
		}
	}
	for _, all := range goodBoth() {
		back := impl.BackOf(all)
		if !impl.BothOk(back) || !slices.Equal(back, reversed(otherWay(all))) {
			t.Fatalf("BackOf(%v) is %v", all, back)
		}
		if again := impl.BackOf(back); !slices.Equal(again, all) {
			t.Fatalf("BackOf(%v) is %v, and back again %v", all, back, again)
		}
	}
	for _, all := range badBoth() {
		if got := impl.BackOf(all); len(got) != 0 {
			t.Fatalf("BackOf(%v) is %v, not nil", all, got)
		}
	}
}

// Promise 44: other orders are customers.
func TestPromise44InOrder(t *testing.T) {
	three, six := both(3, 2, 1, 4, 5, 1), both(1, 2, 3, 4, 5, 6, 7, 8, 9, 1, 2, 3)
	cases := []struct {
		all   []impl.Both
		order []int
		row   []impl.Both
		ok    bool
	}{
		{three, []int{0, 1, 2}, three, true}, {three, []int{1, 0, 2}, both(1, 4, 3, 2, 5, 1), true}, {three, []int{1, 2, 0}, both(1, 4, 5, 1, 3, 2), true}, {three, []int{2, 0, 1}, both(5, 1, 3, 2, 1, 4), true}, {three, []int{2, 1, 0}, both(5, 1, 1, 4, 3, 2), true},
		{both(1, 1), []int{0}, both(1, 1), true}, {both(9, 2), []int{0}, both(9, 2), true}, {sameBoth(6, 4, 4), []int{5, 4, 3, 2, 1, 0}, sameBoth(6, 4, 4), true}, {six, []int{5, 0, 4, 1, 3, 2}, both(2, 3, 1, 2, 9, 1, 3, 4, 7, 8, 5, 6), true},
		{three, nil, nil, false}, {three, []int{}, nil, false}, {three, []int{0, 1}, nil, false}, {three, []int{0, 1, 2, 3}, nil, false}, {three, []int{0, 1, 1}, nil, false}, {three, []int{1, 2, 3}, nil, false}, {three, []int{0, -1, 1}, nil, false}, {three, []int{0, 1, 2, 0}, nil, false}, {both(1, 1), []int{1}, nil, false}, {both(1, 1), []int{-1}, nil, false}, {both(1, 1), nil, nil, false}, {both(1, 1), []int{0, 0}, nil, false}, {both(1, 1), []int{math.MinInt}, nil, false}, {both(1, 1), []int{math.MaxInt}, nil, false},
		{nil, nil, nil, false}, {nil, []int{0}, nil, false}, {[]impl.Both{}, []int{}, nil, false}, {sameBoth(7, 1, 1), []int{0, 1, 2, 3, 4, 5, 6}, nil, false}, {both(0, 1), []int{0}, nil, false}, {both(1, 0), []int{0}, nil, false}, {both(10, 1), []int{0}, nil, false}, {both(1, 10), []int{0}, nil, false}, {both(1, 1, 1, 10), []int{1, 0}, nil, false},
	}
	for _, c := range cases {
		if row, ok := impl.InOrder(c.all, c.order); ok != c.ok || !slices.Equal(row, c.row) {
			t.Errorf("InOrder(%v, %v) is %v, %v, not %v, %v", c.all, c.order, row, ok, c.row, c.ok)
		}
	}
	for _, all := range goodBoth() {
		least := impl.LeastWay(all)
		for _, order := range ordersOfSo(len(all)) {
			checkInOrder(t, all, order, least)
		}
	}
}

func checkInOrder(t *testing.T, all []impl.Both, order []int, least int) {
	t.Helper()
	row, ok := impl.InOrder(all, order)
	if !ok || len(row) != len(all) || !impl.BothOk(row) || !slices.Equal(row, arrangedByWords(all, order)) {
		t.Fatalf("InOrder(%v, %v) is %v, %v", all, order, row, ok)
	}
	if got := impl.LongestWay(row); got < least {
		t.Fatalf("InOrder(%v, %v) takes %d, and LeastWay is %d", all, order, got, least)
	}
}

func TestPromise44InOrderOfOthers(t *testing.T) {
	refused := func(all []impl.Both, order []int) {
		t.Helper()
		if row, ok := impl.InOrder(all, order); ok || len(row) != 0 {
			t.Fatalf("InOrder(%v, %v) is %v, %v", all, order, row, ok)
		}
	}
	for _, all := range append(moreBoth(), both(1, 1), both(9, 9), both(2, 3, 3, 2)) {
		for _, row := range noOrdersOf(len(all)) {
			refused(all, row)
		}
	}
	for _, all := range badBoth() {
		for _, row := range [][]int{nil, {0}, {0, 1, 2}, {2, 1, 0, 3, 4, 5}, countedTo(len(all))} {
			refused(all, row)
		}
	}
}

// Promise 45: a rule on pairs takes least.
func TestPromise45ByPairs(t *testing.T) {
	for _, c := range bothCases() {
		if got := impl.ByPairs(c.all); !slices.Equal(got, c.order) {
			t.Errorf("ByPairs(%v) is %v, not %v", c.all, got, c.order)
		}
	}
	for _, all := range goodBoth() {
		checkByPairs(t, all)
	}
	for _, all := range badBoth() {
		if got := impl.ByPairs(all); len(got) != 0 {
			t.Fatalf("ByPairs(%v) is %v, not nil", all, got)
		}
	}
}

// pairsByWords looks for each need, one after the other, for those who have it at the counter that tells the order.
func pairsByWords(all []impl.Both) []int {
	var order []int
	for need := 1; need <= 9; need++ {
		for at, one := range all {
			if one.First <= one.Second && one.First == need {
				order = append(order, at)
			}
		}
	}
	for need := 9; need >= 1; need-- {
		for at, one := range all {
			if one.First > one.Second && one.Second == need {
				order = append(order, at)
			}
		}
	}
	return order
}

func checkByPairs(t *testing.T, all []impl.Both) {
	t.Helper()
	order := impl.ByPairs(all)
	if !impl.EachOnce(order, len(all)) || !slices.Equal(order, pairsByWords(all)) {
		t.Fatalf("ByPairs(%v) is %v, not %v", all, order, pairsByWords(all))
	}
	row, ok := impl.InOrder(all, order)
	if way, least := impl.LongestWay(row), impl.LeastWay(all); !ok || way != least {
		t.Fatalf("ByPairs(%v) is %v, and takes %d, and LeastWay is %d", all, order, way, least)
	}
}

// Promise 46: backwards the least is the same.
func TestPromise46LeastWay(t *testing.T) {
	for _, c := range bothCases() {
		if got := impl.LeastWay(c.all); got != c.least {
			t.Errorf("LeastWay(%v) is %d, not %d", c.all, got, c.least)
		}
	}
	for _, all := range goodBoth() {
		checkLeastWay(t, all)
	}
	for _, all := range badBoth() {
		if got := impl.LeastWay(all); got != -1 {
			t.Fatalf("LeastWay(%v) is %d, not -1", all, got)
		}
	}
}

func checkLeastWay(t *testing.T, all []impl.Both) {
	t.Helper()
	least, back := impl.LeastWay(all), impl.LeastWay(impl.BackOf(all))
	if want := leastWayByWords(all); least != want || least != back {
		t.Fatalf("LeastWay(%v) is %d, not %d, and backwards %d", all, least, want, back)
	}
	first, _ := needsAtBoth(all)
	leastSecond := slices.MinFunc(all, func(a, b impl.Both) int { return a.Second - b.Second }).Second
	if least < first+leastSecond {
		t.Fatalf("LeastWay(%v) is %d, and they need %d, and then at least %d", all, least, first, leastSecond)
	}
}

// A general rule: arguments are never written to, whether they are customers and orders or not.
func TestBehindArgumentsAreNotWrittenTo(t *testing.T) {
	for _, all := range append(goodBoth(), badBoth()...) {
		many := min(len(all), 7)
		for _, order := range append(noOrdersOf(many)[:9], countedTo(many), reversed(countedTo(many))) {
			bothUntouched(t, all, order, func(part []impl.Both, row []int) {
				arranged, _ := impl.InOrder(part, row)
				scribbled(arranged, impl.Both{First: -7, Second: -7})
			})
		}
		rowUntouched(t, all, both(1, 2, 3, 4), func(part []impl.Both) {
			impl.BothOk(part)
			impl.LongestWay(part)
			impl.LeastWay(part)
			scribbled(impl.LeavesBoth(part), -7)
			scribbled(impl.ByPairs(part), -7)
			scribbled(impl.BackOf(part), impl.Both{First: -7, Second: -7})
		})
	}
}

// A general rule: results share no memory with each other, nor with an argument that is written to later.
func TestBehindResultsAreNew(t *testing.T) {
	all, order, none := both(3, 2, 1, 4, 5, 1), []int{0, 1, 2}, impl.Both{First: -7, Second: -7}
	leaves, pairs, back := impl.LeavesBoth(all), impl.ByPairs(all), impl.BackOf(all)
	row, _ := impl.InOrder(all, order)
	asBefore := func(when string) {
		t.Helper()
		if !slices.Equal(leaves, []int{5, 9, 10}) || !slices.Equal(pairs, []int{1, 0, 2}) || !slices.Equal(back, both(1, 5, 4, 1, 2, 3)) || !slices.Equal(row, both(3, 2, 1, 4, 5, 1)) {
			t.Errorf("%s: %v, %v, %v, %v", when, leaves, pairs, back, row)
		}
	}
	asBefore("at once")
	other, _ := impl.InOrder(all, order)
	scribbled(other, none)
	scribbled(impl.LeavesBoth(all), -7)
	scribbled(impl.ByPairs(all), -7)
	scribbled(impl.BackOf(all), none)
	asBefore("with other results written to")
	scribbled(all, none)
	scribbled(order, -7)
	asBefore("with the arguments written to")
}

// A general rule: no call leaves anything for the next one.
func TestBehindSameAgain(t *testing.T) {
	sameForAll(t, append(goodBoth(), badBoth()...), func(all []impl.Both) []int {
		numbers := append(impl.LeavesBoth(all), impl.LongestWay(all), impl.LeastWay(all))
		for _, one := range impl.BackOf(all) {
			numbers = append(numbers, one.First, one.Second)
		}
		order := impl.ByPairs(all)
		row, _ := impl.InOrder(all, order)
		return append(append(numbers, order...), impl.LeavesBoth(row)...)
	})
}
