package tests

import (
	"math"
	"slices"
	"testing"

	"loop.example/onecounter/impl"
)

// unitsBeside has for each unit of time the places of those who are served in it: it goes through the time unit by unit, looks for room at the counters, and knows no free times.
func unitsBeside(all []impl.Customer, counters int) [201][]int {
	var units [201][]int
	var there, left []int
	for time := range units {
		for next := len(left); next < len(all) && all[next].Come <= time && len(there) < counters; next++ {
			there = append(there, next)
			left = append(left, all[next].Need)
		}
		units[time] = slices.Clone(there)
		for _, at := range there {
			left[at]--
		}
		there = slices.DeleteFunc(there, func(at int) bool { return left[at] == 0 })
	}
	return units
}

// besideByWords has when each begins and leaves, told by the first unit and the last one in which this one is served.
func besideByWords(all []impl.Customer, counters int) (begins, leaves []int) {
	begins, leaves = make([]int, len(all)), make([]int, len(all))
	for time, there := range unitsBeside(all, counters) {
		for _, at := range there {
			if leaves[at] == 0 {
				begins[at] = time
			}
			leaves[at] = time + 1
		}
	}
	return begins, leaves
}

// besideLists has all lists of customers that the checks of this chapter look at.
func besideLists() [][]impl.Customer {
	return slices.Concat(goodLists(), fewLists(), crowdedLists())
}

// crowdedLists has customers of whom many come within few units, so that some wait at each number of counters, and leave in another order than they come.
func crowdedLists() [][]impl.Customer {
	var lists [][]impl.Customer
	next := numbersFrom(3)
	for _, latest := range []int{0, 1, 3, 6, 10} {
		for range 60 {
			var all []impl.Customer
			for range 5 + next(4) {
				all = append(all, impl.Customer{Come: next(latest + 1), Need: 1 + next(9)})
			}
			slices.SortFunc(all, func(a, b impl.Customer) int { return a.Come - b.Come })
			lists = append(lists, all)
		}
	}
	return lists
}

func eachBeside(call func(all []impl.Customer, counters int)) {
	for _, all := range besideLists() {
		for counters := 1; counters <= 4; counters++ {
			call(all, counters)
		}
	}
}

// countersPast has numbers of counters that there cannot be.
func countersPast() []int {
	return []int{math.MinInt, -4, -1, 0, 5, 6, 8, math.MaxInt}
}

// otherBeside calls for customers with numbers of counters that there cannot be, and for others with any number.
func otherBeside(call func(all []impl.Customer, counters int)) {
	for _, all := range besideLists() {
		for _, counters := range countersPast() {
			call(all, counters)
		}
	}
	for _, all := range append(othersOfEachKind(), badLists()...) {
		for _, counters := range append(countersPast(), 1, 2, 3, 4) {
			call(all, counters)
		}
	}
}

// besideCase has for customers at so many counters when each begins and leaves, and how long all wait.
type besideCase struct {
	all            []impl.Customer
	counters       int
	begins, leaves []int
	waits          int
}

func besideCases() []besideCase {
	four, eight := list(0, 4, 1, 3, 1, 1, 2, 2), list(0, 9, 1, 7, 2, 5, 3, 3, 4, 1, 5, 1, 6, 1, 7, 1)
	late, none := same(8, 60, 9), []int(nil)
	return []besideCase{
		{four, 1, []int{0, 4, 7, 8}, []int{4, 7, 8, 10}, 15}, {four, 2, []int{0, 1, 4, 4}, []int{4, 4, 5, 6}, 5}, {four, 3, []int{0, 1, 1, 2}, []int{4, 4, 2, 4}, 0}, {four, 4, []int{0, 1, 1, 2}, []int{4, 4, 2, 4}, 0},
		// No customers, and more counters than customers.
		{nil, 1, none, none, 0}, {nil, 4, none, none, 0}, {[]impl.Customer{}, 1, none, none, 0}, {[]impl.Customer{}, 3, none, none, 0},
		{list(0, 1), 1, []int{0}, []int{1}, 0}, {list(0, 1), 4, []int{0}, []int{1}, 0}, {list(60, 9), 1, []int{60}, []int{69}, 0}, {list(60, 9), 4, []int{60}, []int{69}, 0}, {list(7, 3), 2, []int{7}, []int{10}, 0},
		{same(2, 5, 9), 3, []int{5, 5}, []int{14, 14}, 0}, {same(2, 5, 9), 2, []int{5, 5}, []int{14, 14}, 0}, {same(2, 5, 9), 1, []int{5, 14}, []int{14, 23}, 9}, {same(3, 0, 2), 4, []int{0, 0, 0}, []int{2, 2, 2}, 0},
		// As many as there may be, who come at the same time.
		{late, 1, []int{60, 69, 78, 87, 96, 105, 114, 123}, []int{69, 78, 87, 96, 105, 114, 123, 132}, 252}, {late, 2, []int{60, 60, 69, 69, 78, 78, 87, 87}, []int{69, 69, 78, 78, 87, 87, 96, 96}, 108}, {late, 3, []int{60, 60, 60, 69, 69, 69, 78, 78}, []int{69, 69, 69, 78, 78, 78, 87, 87}, 63}, {late, 4, []int{60, 60, 60, 60, 69, 69, 69, 69}, []int{69, 69, 69, 69, 78, 78, 78, 78}, 36},
		{same(8, 0, 1), 1, []int{0, 1, 2, 3, 4, 5, 6, 7}, []int{1, 2, 3, 4, 5, 6, 7, 8}, 28}, {same(8, 0, 1), 3, []int{0, 0, 0, 1, 1, 1, 2, 2}, []int{1, 1, 1, 2, 2, 2, 3, 3}, 7}, {same(5, 0, 1), 4, []int{0, 0, 0, 0, 1}, []int{1, 1, 1, 1, 2}, 1},
		// The counter that is free first is one in use last, and it is taken again and again.
		{eight, 4, []int{0, 1, 2, 3, 6, 7, 7, 8}, []int{9, 8, 7, 6, 7, 8, 8, 9}, 6}, {eight, 3, []int{0, 1, 2, 7, 8, 9, 9, 10}, []int{9, 8, 7, 10, 9, 10, 10, 11}, 4 + 4 + 4 + 3 + 3}, {eight, 2, []int{0, 1, 8, 9, 12, 13, 13, 14}, []int{9, 8, 13, 12, 13, 14, 14, 15}, 6 + 6 + 8 + 8 + 7 + 7},
		// A time is put back ahead of others, between them, and behind them.
		{list(0, 2, 0, 4, 0, 8, 0, 1, 0, 9, 0, 1), 3, []int{0, 0, 0, 2, 3, 4}, []int{2, 4, 8, 3, 12, 5}, 9}, {list(0, 2, 0, 4, 0, 8, 0, 3, 0, 1, 0, 1), 3, []int{0, 0, 0, 2, 4, 5}, []int{2, 4, 8, 5, 5, 6}, 11}, {list(0, 2, 0, 4, 0, 8, 0, 9, 0, 1, 0, 1), 3, []int{0, 0, 0, 2, 4, 5}, []int{2, 4, 8, 11, 5, 6}, 11}, {list(0, 2, 0, 4, 0, 8, 0, 2, 0, 4, 0, 1), 3, []int{0, 0, 0, 2, 4, 4}, []int{2, 4, 8, 4, 8, 5}, 10},
		// Who comes one unit before a counter is free, just then, and one unit later.
		{list(0, 5, 0, 9, 4, 1), 2, []int{0, 0, 5}, []int{5, 9, 6}, 1}, {list(0, 5, 0, 9, 5, 1), 2, []int{0, 0, 5}, []int{5, 9, 6}, 0}, {list(0, 5, 0, 9, 6, 1), 2, []int{0, 0, 6}, []int{5, 9, 7}, 0},
		// All counters are free long before the next ones come.
		{list(0, 9, 0, 9, 30, 5, 30, 6, 31, 1), 2, []int{0, 0, 30, 30, 35}, []int{9, 9, 35, 36, 36}, 4}, {list(0, 1, 60, 1), 2, []int{0, 60}, []int{1, 61}, 0}, {list(0, 9, 60, 9, 60, 9, 60, 1), 2, []int{0, 60, 60, 69}, []int{9, 69, 69, 70}, 9},
		{four, 0, none, none, -1}, {four, -1, none, none, -1}, {four, 5, none, none, -1}, {four, math.MinInt, none, none, -1}, {four, math.MaxInt, none, none, -1}, {nil, 0, none, none, -1}, {nil, 5, none, none, -1}, {[]impl.Customer{}, -1, none, none, -1}, {list(0, 1), 0, none, none, -1}, {late, 5, none, none, -1}, {late, 8, none, none, -1},
		{same(9, 0, 1), 1, none, none, -1}, {same(9, 0, 1), 4, none, none, -1}, {list(-1, 3), 1, none, none, -1}, {list(61, 3), 2, none, none, -1}, {list(0, 0), 3, none, none, -1}, {list(0, -1), 1, none, none, -1}, {list(0, 10), 4, none, none, -1}, {list(2, 3, 1, 3), 2, none, none, -1}, {list(0, 1, 1, math.MaxInt), 1, none, none, -1}, {list(0, 10), 5, none, none, -1},
	}
}

func TestMaxCounters(t *testing.T) {
	if impl.MaxCounters != 4 {
		t.Errorf("there are up to %d counters", impl.MaxCounters)
	}
}

func TestListsCrowdAtEachNumberOfCounters(t *testing.T) {
	// For each number of counters: how many wait, leave before one ahead, and begin just when they come, and as another one leaves, with all counters taken.
	var wait, before, justThen [5]int
	eachBeside(func(all []impl.Customer, counters int) {
		begins, leaves := besideByWords(all, counters)
		units := unitsBeside(all, counters)
		for at, c := range all {
			if begins[at] > c.Come {
				wait[counters]++
			}
			if at > 0 && leaves[at] < slices.Max(leaves[:at]) {
				before[counters]++
			}
			if begins[at] == c.Come && c.Come > 0 && len(units[c.Come-1]) == counters && slices.Contains(leaves[:at], c.Come) {
				justThen[counters]++
			}
		}
	})
	for counters := 1; counters <= 4; counters++ {
		if wait[counters] < 100 || before[counters] < 100 && counters > 1 || justThen[counters] < 10 {
			t.Errorf("at %d counters %d wait, %d leave before one ahead, %d come just then", counters, wait[counters], before[counters], justThen[counters])
		}
	}
	if before[1] != 0 {
		t.Errorf("at one counter %d leave before one ahead", before[1])
	}
}

// numbersBeside reports it if the numbers are not those of each case, and not nil for others.
func numbersBeside(t *testing.T, numbers func(all []impl.Customer, counters int) []int, wanted func(c besideCase) []int) {
	t.Helper()
	for _, c := range besideCases() {
		if got := numbers(c.all, c.counters); !slices.Equal(got, wanted(c)) {
			t.Errorf("of %v at %d they are %v, not %v", c.all, c.counters, got, wanted(c))
		}
	}
	otherBeside(func(all []impl.Customer, counters int) {
		if got := numbers(all, counters); len(got) != 0 {
			t.Fatalf("of %v at %d they are %v, not nil", all, counters, got)
		}
	})
}

// Promise 47: a further counter makes none begin later.
func TestPromise47BeginsOf(t *testing.T) {
	numbersBeside(t, impl.BeginsOf, func(c besideCase) []int { return c.begins })
	eachBeside(func(all []impl.Customer, counters int) { checkBegins(t, all, counters) })
}

func checkBegins(t *testing.T, all []impl.Customer, counters int) {
	t.Helper()
	begins := impl.BeginsOf(all, counters)
	if want, _ := besideByWords(all, counters); !slices.Equal(begins, want) {
		t.Fatalf("BeginsOf(%v, %d) is %v, not %v", all, counters, begins, want)
	}
	further := begins
	if counters < 4 {
		further = impl.BeginsOf(all, counters+1)
	}
	waits := impl.WaitsOf(all)
	if len(further) != len(all) || len(waits) != len(all) {
		t.Fatalf("BeginsOf(%v, %d) is %v, WaitsOf %v", all, counters+1, further, waits)
	}
	for at, c := range all {
		if begins[at] < c.Come || at > 0 && begins[at] < begins[at-1] {
			t.Fatalf("BeginsOf(%v, %d) is %v: %d begins too early", all, counters, begins, at)
		}
		if further[at] > begins[at] {
			t.Fatalf("BeginsOf(%v, %d) is %v, and with a further counter %v", all, counters, begins, further)
		}
		if counters == 1 && begins[at] != c.Come+waits[at] {
			t.Fatalf("BeginsOf(%v, 1) is %v, WaitsOf %v", all, begins, waits)
		}
	}
}

// Promise 48: who needs more makes none leave earlier.
func TestPromise48LeavesBeside(t *testing.T) {
	numbersBeside(t, impl.LeavesBeside, func(c besideCase) []int { return c.leaves })
	eachBeside(func(all []impl.Customer, counters int) { checkLeavesBeside(t, all, counters) })
}

func checkLeavesBeside(t *testing.T, all []impl.Customer, counters int) {
	t.Helper()
	leaves, begins, last := impl.LeavesBeside(all, counters), impl.BeginsOf(all, counters), impl.LastLeave(all)
	if _, want := besideByWords(all, counters); !slices.Equal(leaves, want) || len(begins) != len(all) {
		t.Fatalf("LeavesBeside(%v, %d) is %v, not %v", all, counters, leaves, want)
	}
	for at, c := range all {
		if leaves[at] != begins[at]+c.Need || leaves[at] > last {
			t.Fatalf("LeavesBeside(%v, %d) is %v, BeginsOf %v, LastLeave %d", all, counters, leaves, begins, last)
		}
		more, ok := impl.NeedingMore(all, at)
		if !ok {
			continue
		}
		later := impl.LeavesBeside(more, counters)
		if len(later) != len(all) {
			t.Fatalf("LeavesBeside(%v, %d) is %v", more, counters, later)
		}
		for i := range all {
			if later[i] < leaves[i] {
				t.Fatalf("LeavesBeside(%v, %d) is %v, and %v if %d needs more", all, counters, leaves, later, at)
			}
		}
	}
}

// Promise 49: no more are served than counters.
func TestPromise49ServedAt(t *testing.T) {
	four, late := list(0, 4, 1, 3, 1, 1, 2, 2), same(8, 60, 9)
	cases := []struct {
		all                    []impl.Customer
		counters, time, served int
	}{
		{four, 2, 0, 1}, {four, 2, 1, 2}, {four, 2, 3, 2}, {four, 2, 4, 2}, {four, 2, 5, 1}, {four, 2, 6, 0}, {four, 2, 200, 0},
		{four, 1, 0, 1}, {four, 1, 9, 1}, {four, 1, 10, 0}, {four, 3, 1, 3}, {four, 3, 2, 3}, {four, 3, 3, 3}, {four, 3, 4, 0}, {four, 4, 1, 3}, {four, 4, 2, 3},
		{nil, 1, 0, 0}, {nil, 4, 200, 0}, {[]impl.Customer{}, 2, 7, 0}, {list(0, 1), 1, 0, 1}, {list(0, 1), 1, 1, 0}, {list(0, 1), 4, 0, 1}, {list(0, 1), 4, 200, 0}, {list(60, 9), 3, 0, 0}, {list(60, 9), 3, 59, 0}, {list(60, 9), 3, 60, 1}, {list(60, 9), 3, 68, 1}, {list(60, 9), 3, 69, 0},
		{late, 1, 59, 0}, {late, 1, 60, 1}, {late, 1, 131, 1}, {late, 1, 132, 0}, {late, 2, 95, 2}, {late, 2, 96, 0}, {late, 3, 77, 3}, {late, 3, 78, 2}, {late, 3, 86, 2}, {late, 3, 87, 0}, {late, 4, 60, 4}, {late, 4, 77, 4}, {late, 4, 78, 0}, {late, 4, 200, 0},
		{list(0, 1, 2, 1), 2, 0, 1}, {list(0, 1, 2, 1), 2, 1, 0}, {list(0, 1, 2, 1), 2, 2, 1}, {list(0, 1, 2, 1), 2, 3, 0},
		{four, 2, -1, -1}, {four, 2, 201, -1}, {four, 2, math.MinInt, -1}, {four, 2, math.MaxInt, -1}, {nil, 1, -1, -1}, {nil, 1, 201, -1}, {[]impl.Customer{}, 4, 201, -1},
		{four, 0, 1, -1}, {four, -1, 1, -1}, {four, 5, 1, -1}, {nil, 0, 0, -1}, {nil, 5, 0, -1}, {four, 0, -1, -1},
		{same(9, 0, 1), 1, 0, -1}, {list(-1, 3), 1, 0, -1}, {list(61, 3), 1, 61, -1}, {list(0, 0), 1, 0, -1}, {list(0, 10), 1, 0, -1}, {list(2, 3, 1, 3), 1, 2, -1},
	}
	for _, c := range cases {
		if got := impl.ServedAt(c.all, c.counters, c.time); got != c.served {
			t.Errorf("ServedAt(%v, %d, %d) is %d, not %d", c.all, c.counters, c.time, got, c.served)
		}
	}
	eachBeside(func(all []impl.Customer, counters int) { checkServedAt(t, all, counters) })
}

func checkServedAt(t *testing.T, all []impl.Customer, counters int) {
	t.Helper()
	leaves := impl.LeavesBeside(all, counters)
	if len(leaves) != len(all) {
		t.Fatalf("LeavesBeside(%v, %d) is %v", all, counters, leaves)
	}
	for time, there := range unitsBeside(all, counters) {
		served := impl.ServedAt(all, counters, time)
		if served != len(there) {
			t.Fatalf("ServedAt(%v, %d, %d) is %d, not %d", all, counters, time, served, len(there))
		}
		come, _, _ := impl.ComeBy(all, time)
		left := 0
		for _, leave := range leaves {
			if leave <= time {
				left++
			}
		}
		if served > counters || served > come || served < counters && served != come-left {
			t.Fatalf("ServedAt(%v, %d, %d) is %d, and %d have come, and %d left", all, counters, time, served, come, left)
		}
	}
}

func TestPromise49ServedAtOfOthers(t *testing.T) {
	refused := func(all []impl.Customer, counters, time int) {
		t.Helper()
		if got := impl.ServedAt(all, counters, time); got != -1 {
			t.Fatalf("ServedAt(%v, %d, %d) is %d, not -1", all, counters, time, got)
		}
	}
	otherBeside(func(all []impl.Customer, counters int) {
		for _, time := range []int{-1, 0, 1, 60, 200, 201} {
			refused(all, counters, time)
		}
	})
	otherTimes(func(all []impl.Customer, time int) {
		for counters := range 6 {
			refused(all, counters, time)
		}
	})
}

// Promise 50: with enough counters nobody waits.
func TestPromise50WaitSum(t *testing.T) {
	for _, c := range besideCases() {
		if got := impl.WaitSum(c.all, c.counters); got != c.waits {
			t.Errorf("WaitSum(%v, %d) is %d, not %d", c.all, c.counters, got, c.waits)
		}
	}
	eachBeside(func(all []impl.Customer, counters int) { checkWaitSum(t, all, counters) })
}

func checkWaitSum(t *testing.T, all []impl.Customer, counters int) {
	t.Helper()
	begins, _ := besideByWords(all, counters)
	want := 0
	for at, c := range all {
		want += begins[at] - c.Come
	}
	sum := impl.WaitSum(all, counters)
	if sum != want {
		t.Fatalf("WaitSum(%v, %d) is %d, not %d", all, counters, sum, want)
	}
	if counters < 4 {
		if further := impl.WaitSum(all, counters+1); further < 0 || further > sum {
			t.Fatalf("WaitSum(%v, %d) is %d, and with a further counter %d", all, counters, sum, further)
		}
	}
	if waits := sumOfNumbers(impl.WaitsOf(all)); counters == 1 && sum != waits {
		t.Fatalf("WaitSum(%v, 1) is %d, and all waits together are %d", all, sum, waits)
	}
	if counters >= len(all) && sum != 0 {
		t.Fatalf("WaitSum(%v, %d) is %d, with enough counters", all, counters, sum)
	}
}

func TestPromise50WaitSumOfOthers(t *testing.T) {
	otherBeside(func(all []impl.Customer, counters int) {
		if got := impl.WaitSum(all, counters); got != -1 {
			t.Fatalf("WaitSum(%v, %d) is %d, not -1", all, counters, got)
		}
	})
}

// A general rule: arguments are never written to, whether they are customers or not.
func TestBesideArgumentsAreNotWrittenTo(t *testing.T) {
	for _, all := range append(besideLists(), badLists()...) {
		untouched(t, all, func(part []impl.Customer) {
			for counters := range 6 {
				scribbled(impl.BeginsOf(part, counters), -7)
				scribbled(impl.LeavesBeside(part, counters), -7)
				impl.WaitSum(part, counters)
				for _, time := range []int{-1, 0, 5, 60, 201} {
					impl.ServedAt(part, counters, time)
				}
			}
		})
	}
}

// A general rule: results share no memory with each other, nor with an argument that is written to later.
func TestBesideResultsAreNew(t *testing.T) {
	all := list(0, 4, 1, 3, 1, 1, 2, 2)
	begins, leaves := impl.BeginsOf(all, 2), impl.LeavesBeside(all, 2)
	asBefore := func(when string, begins, leaves []int) {
		t.Helper()
		if !slices.Equal(begins, []int{0, 1, 4, 4}) || !slices.Equal(leaves, []int{4, 4, 5, 6}) {
			t.Errorf("%s: %v, %v", when, begins, leaves)
		}
	}
	asBefore("at once", begins, leaves)
	scribbled(impl.BeginsOf(all, 2), -7)
	scribbled(impl.LeavesBeside(all, 2), -7)
	asBefore("with other results written to", begins, leaves)
	asBefore("asked again", impl.BeginsOf(all, 2), impl.LeavesBeside(all, 2))
	scribbled(all, impl.Customer{Come: -7, Need: -7})
	asBefore("with the argument written to", begins, leaves)
}

// A general rule: no call leaves anything for the next one.
func TestBesideSameAgain(t *testing.T) {
	sameAgain(t, func(all []impl.Customer) []int {
		var numbers []int
		for counters := range 6 {
			numbers = append(numbers, impl.WaitSum(all, counters), impl.ServedAt(all, counters, 1), impl.ServedAt(all, counters, 61))
			numbers = append(append(numbers, impl.BeginsOf(all, counters)...), impl.LeavesBeside(all, counters)...)
		}
		return numbers
	})
}
