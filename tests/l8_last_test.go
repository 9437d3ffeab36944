package tests

import (
	"math"
	"slices"
	"testing"

	"loop.example/onecounter/impl"
)

// periodByWords tries one number of units after the other, from 1 on.
func periodByWords(all []impl.Customer, at int) int {
	for units := 1; ; units++ {
		needed := 0
		for _, c := range all[at:] {
			if c.Come < all[at].Come+units {
				needed += c.Need
			}
		}
		if needed == units {
			return units
		}
	}
}

// stillThereByWords has the places of those ahead of a customer who are served in a unit at or behind the one in which this one comes, if the last who came is served.
func stillThereByWords(all []impl.Customer, order []int, at int) []int {
	var places []int
	for ahead := range at {
		if slices.Contains(order[all[at].Come:], ahead) {
			places = append(places, ahead)
		}
	}
	return places
}

// lastCase has, for each of customers, how long this one is there, who is left, and how deep.
type lastCase struct {
	all               []impl.Customer
	times, left, deep []int
}

func lastCases() []lastCase {
	none, ones := slices.Repeat([]int{-1}, 8), slices.Repeat([]int{1}, 8)
	ahead, down := []int{-1, 0, 1, 2, 3, 4, 5, 6}, []int{1, 2, 3, 4, 5, 6, 7, 8}
	return []lastCase{
		{nil, nil, nil, nil}, {[]impl.Customer{}, nil, nil, nil},
		{list(0, 1), []int{1}, none[:1], ones[:1]}, {list(0, 9), []int{9}, none[:1], ones[:1]}, {list(60, 9), []int{9}, none[:1], ones[:1]},
		{list(0, 3, 1, 2, 2, 1, 9, 1), []int{6, 3, 1, 1}, []int{-1, 0, 1, -1}, []int{1, 2, 3, 1}},
		// Who comes one unit before the end, just at it, and one unit behind it.
		{list(0, 2, 1, 1), []int{3, 1}, []int{-1, 0}, []int{1, 2}}, {list(0, 2, 2, 1), []int{2, 1}, none[:2], ones[:2]}, {list(0, 2, 3, 1), []int{2, 1}, none[:2], ones[:2]},
		{list(0, 9, 8, 1), []int{10, 1}, []int{-1, 0}, []int{1, 2}}, {list(0, 9, 9, 1), []int{9, 1}, none[:2], ones[:2]}, {list(51, 9, 60, 9), []int{9, 9}, none[:2], ones[:2]}, {list(52, 9, 60, 9), []int{18, 9}, []int{-1, 0}, []int{1, 2}},
		{list(0, 3, 1, 2, 2, 1, 5, 1), []int{7, 3, 1, 1}, []int{-1, 0, 1, 0}, []int{1, 2, 3, 2}}, {list(0, 3, 1, 2, 2, 1, 6, 1), []int{6, 3, 1, 1}, []int{-1, 0, 1, -1}, []int{1, 2, 3, 1}},
		// An inner one ends just when the next one comes, and the outer one is left again.
		{list(0, 4, 1, 2, 3, 1), []int{7, 2, 1}, []int{-1, 0, 0}, []int{1, 2, 2}}, {list(0, 4, 1, 2, 2, 1, 4, 1), []int{8, 3, 1, 1}, []int{-1, 0, 1, 0}, []int{1, 2, 3, 2}}, {list(0, 9, 8, 9, 17, 9), []int{27, 9, 9}, []int{-1, 0, 0}, []int{1, 2, 2}},
		{list(0, 9, 1, 1, 1, 1, 1, 1, 6, 1), []int{13, 3, 2, 1, 1}, []int{-1, 0, 1, 2, 0}, []int{1, 2, 3, 4, 2}},
		// Of those who come at the same time, the one with the greatest place is served.
		{list(5, 2, 5, 3, 5, 4), []int{9, 7, 4}, ahead[:3], down[:3]}, {list(0, 1, 0, 1), []int{2, 1}, ahead[:2], down[:2]}, {list(0, 2, 2, 1, 2, 1), []int{2, 2, 1}, []int{-1, -1, 1}, []int{1, 1, 2}}, {list(0, 1, 0, 1, 1, 1, 1, 1), []int{4, 1, 2, 1}, []int{-1, 0, 0, 2}, []int{1, 2, 2, 3}}, {list(0, 1, 0, 1, 2, 1), []int{2, 1, 1}, []int{-1, 0, -1}, []int{1, 2, 1}},
		{same(8, 0, 1), []int{8, 7, 6, 5, 4, 3, 2, 1}, ahead, down}, {same(8, 60, 9), []int{72, 63, 54, 45, 36, 27, 18, 9}, ahead, down},
		{list(0, 9, 1, 9, 2, 9, 3, 9, 4, 9, 5, 9, 6, 9, 7, 9), []int{72, 63, 54, 45, 36, 27, 18, 9}, ahead, down}, {list(0, 2, 1, 2, 2, 2, 3, 2, 4, 2, 5, 2, 6, 2, 7, 2), []int{16, 14, 12, 10, 8, 6, 4, 2}, ahead, down},
		{list(0, 1, 1, 1, 2, 1, 3, 1, 4, 1, 5, 1, 6, 1, 7, 1), ones, none, ones}, {list(0, 9, 1, 1, 2, 1, 3, 1, 4, 1, 5, 1, 6, 1, 7, 1), []int{16, 1, 1, 1, 1, 1, 1, 1}, []int{-1, 0, 0, 0, 0, 0, 0, 0}, []int{1, 2, 2, 2, 2, 2, 2, 2}},
		{list(0, 9, 30, 9, 60, 9), []int{9, 9, 9}, none[:3], ones[:3]}, {list(0, 1, 60, 1), []int{1, 1}, none[:2], ones[:2]}, {list(0, 2, 1, 1, 59, 2, 60, 1), []int{3, 1, 3, 1}, []int{-1, 0, -1, 2}, []int{1, 2, 1, 2}},
	}
}

// comingAtEnds has long lists with one customer more, who comes just when the period from one of the others ends, and one unit before it.
func comingAtEnds() [][]impl.Customer {
	var lists [][]impl.Customer
	for _, all := range longLists() {
		for at, c := range all {
			end := c.Come + periodByWords(all, at)
			for _, come := range []int{end - 1, end} {
				lists = append(lists, append(slices.Clone(all), impl.Customer{Come: come, Need: 2}))
			}
		}
	}
	return slices.DeleteFunc(lists, func(all []impl.Customer) bool { return !goodByRule(all) })
}

// lastLists has all lists of customers that the checks of this chapter look at.
func lastLists() [][]impl.Customer {
	return slices.Concat(goodLists(), fewLists(), comingAtEnds())
}

// eachPlace calls for each of all customers, with the order by the rule 1.
func eachPlace(call func(all []impl.Customer, order []int, at int)) {
	for _, all := range lastLists() {
		order := orderByWords(all, 1)
		for at := range all {
			call(all, order, at)
		}
	}
}

// answeredAtPlaces reports it if an answer is another one than that of a case.
func answeredAtPlaces(t *testing.T, answer func(all []impl.Customer, at int) int, wanted func(c lastCase) []int) {
	t.Helper()
	for _, c := range lastCases() {
		for at, want := range wanted(c) {
			if got := answer(c.all, at); got != want {
				t.Errorf("of %v at %d it is %d, not %d", c.all, at, got, want)
			}
		}
	}
}

func TestLastCasesHaveAllCustomers(t *testing.T) {
	for _, c := range lastCases() {
		if many := len(c.all); len(c.times) != many || len(c.left) != many || len(c.deep) != many {
			t.Errorf("not one number for each of %v", c.all)
		}
	}
}

func TestListsComeAtEnds(t *testing.T) {
	// How often the last customer comes just when one ends, and another one, who was left before, is still there.
	inner := 0
	for _, all := range comingAtEnds() {
		last := len(all) - 1
		for at, c := range all[:last] {
			left := stillThereByWords(all, orderByWords(all, 1), last)
			if c.Come+periodByWords(all, at) == all[last].Come && len(left) > 0 {
				inner++
			}
		}
	}
	if inner < 50 {
		t.Fatalf("only %d lists", inner)
	}
}

// Promise 36: how long one is there does not depend on those before.
func TestPromise36LastTimes(t *testing.T) {
	for _, c := range lastCases() {
		if got := impl.LastTimes(c.all); !slices.Equal(got, c.times) {
			t.Errorf("LastTimes(%v) is %v, not %v", c.all, got, c.times)
		}
	}
	for _, all := range lastLists() {
		checkLastTimes(t, all)
	}
	for _, all := range append(othersOfEachKind(), badLists()...) {
		if got := impl.LastTimes(all); len(got) != 0 {
			t.Fatalf("LastTimes(%v) is %v, not nil", all, got)
		}
	}
}

func checkLastTimes(t *testing.T, all []impl.Customer) {
	t.Helper()
	times := impl.LastTimes(all)
	if want := timesByWords(all, orderByWords(all, 1)); !slices.Equal(times, want) {
		t.Fatalf("LastTimes(%v) is %v, not %v", all, times, want)
	}
	for at, time := range times {
		if got := impl.PeriodFrom(all, at); got != time {
			t.Fatalf("LastTimes(%v) is %v, and PeriodFrom %d is %d", all, times, at, got)
		}
	}
	if len(all) == 0 {
		return
	}
	if without := impl.LastTimes(all[1:]); !slices.Equal(without, times[1:]) {
		t.Fatalf("LastTimes(%v) is %v, and %v without the first one", all, times, without)
	}
}

// Promise 37: periods from one are busy.
func TestPromise37PeriodFrom(t *testing.T) {
	answeredAtPlaces(t, impl.PeriodFrom, func(c lastCase) []int { return c.times })
	eachPlace(func(all []impl.Customer, _ []int, at int) { checkPeriod(t, all, at) })
}

func checkPeriod(t *testing.T, all []impl.Customer, at int) {
	t.Helper()
	c, period := all[at], impl.PeriodFrom(all, at)
	if want := periodByWords(all, at); period != want || period < c.Need {
		t.Fatalf("PeriodFrom(%v, %d) is %d, not %d", all, at, period, want)
	}
	busy := impl.BusyOf(all[at:])
	if len(busy) == 0 || len(busy[0]) != 2 || busy[0][0] != c.Come {
		t.Fatalf("BusyOf(%v) is %v", all[at:], busy)
	}
	next := slices.ContainsFunc(all[at:], func(one impl.Customer) bool { return one.Come == c.Come+period })
	if length := busy[0][1] - busy[0][0]; length < period || (length == period) == next {
		t.Fatalf("PeriodFrom(%v, %d) is %d, and BusyOf those from it on %v", all, at, period, busy)
	}
}

func TestPromise37PeriodFromOthers(t *testing.T) {
	refusedPlaces(t, -1, impl.PeriodFrom)
}

// refusedPlaces reports it if an answer is another one for a place that customers do not have, or for others.
func refusedPlaces(t *testing.T, want int, answer func(all []impl.Customer, at int) int) {
	t.Helper()
	three := list(0, 3, 1, 2, 2, 1)
	cases := []struct {
		all []impl.Customer
		at  int
	}{
		{nil, 0}, {nil, -1}, {nil, 1}, {[]impl.Customer{}, 0}, {three, -1}, {three, 3}, {three[:2], 2}, {three, math.MinInt}, {three, math.MaxInt}, {list(0, 1), 1}, {same(8, 0, 1), 8}, {same(8, 60, 9), -1},
		{same(9, 0, 1), 0}, {same(9, 0, 1), 8}, {list(-1, 3), 0}, {list(61, 3), 0}, {list(0, 0), 0}, {list(0, -1), 0}, {list(0, 10), 0}, {list(2, 3, 1, 3), 0}, {list(2, 3, 1, 3), 1}, {list(0, 1, 1, 10), 0}, {list(0, 10, 20, 1), 1},
	}
	refused := func(all []impl.Customer, at int) {
		t.Helper()
		if got := answer(all, at); got != want {
			t.Fatalf("of %v at %d it is %d, not %d", all, at, got, want)
		}
	}
	for _, c := range cases {
		refused(c.all, c.at)
	}
	otherPlaces(refused)
}

// Promise 38: services are within each other.
func TestPromise38LeftFor(t *testing.T) {
	answeredAtPlaces(t, impl.LeftFor, func(c lastCase) []int { return c.left })
	eachPlace(func(all []impl.Customer, order []int, at int) { checkLeft(t, all, order, at) })
}

func checkLeft(t *testing.T, all []impl.Customer, order []int, at int) {
	t.Helper()
	left, want := impl.LeftFor(all, at), -1
	if there := stillThereByWords(all, order, at); len(there) > 0 {
		want = there[len(there)-1]
	}
	if left != want || left >= at {
		t.Fatalf("LeftFor(%v, %d) is %d, not %d", all, at, left, want)
	}
	if left >= 0 {
		leftEnds, thisEnds := all[left].Come+impl.PeriodFrom(all, left), all[at].Come+impl.PeriodFrom(all, at)
		if leftEnds < thisEnds {
			t.Fatalf("LeftFor(%v, %d) is %d, who ends at %d, before %d", all, at, left, leftEnds, thisEnds)
		}
		return
	}
	for ahead, time := range impl.LastTimes(all)[:at] {
		if end := all[ahead].Come + time; end > all[at].Come {
			t.Fatalf("LeftFor(%v, %d) is %d, but %d ends at %d", all, at, left, ahead, end)
		}
	}
}

func TestPromise38LeftForOthers(t *testing.T) {
	refusedPlaces(t, -2, impl.LeftFor)
}

// Promise 39: each is one deeper than who is left.
func TestPromise39DeepAt(t *testing.T) {
	answeredAtPlaces(t, impl.DeepAt, func(c lastCase) []int { return c.deep })
	eachPlace(func(all []impl.Customer, order []int, at int) { checkDeep(t, all, order, at) })
}

func checkDeep(t *testing.T, all []impl.Customer, order []int, at int) {
	t.Helper()
	deep, one := impl.DeepAt(all, at), 1
	if left := impl.LeftFor(all, at); left >= 0 {
		one = impl.DeepAt(all, left) + 1
	}
	if want := len(stillThereByWords(all, order, at)) + 1; deep != want || deep != one {
		t.Fatalf("DeepAt(%v, %d) is %d, not %d; one more than for who is left is %d", all, at, deep, want, one)
	}
	if at+1 < len(all) && all[at+1].Come == all[at].Come {
		return
	}
	if there := impl.ThereAt(all, impl.OrderBy(all, 1), all[at].Come); there != deep {
		t.Fatalf("DeepAt(%v, %d) is %d, and %d are there", all, at, deep, there)
	}
}

func TestPromise39DeepAtOthers(t *testing.T) {
	refusedPlaces(t, -1, impl.DeepAt)
}

// A general rule: arguments are never written to, whether they are customers or not.
func TestLastArgumentsAreNotWrittenTo(t *testing.T) {
	for _, all := range append(lastLists(), badLists()...) {
		untouched(t, all, func(part []impl.Customer) {
			scribbled(impl.LastTimes(part), -7)
			for at := -1; at <= len(part); at++ {
				impl.PeriodFrom(part, at)
				impl.LeftFor(part, at)
				impl.DeepAt(part, at)
			}
		})
	}
}

// A general rule: results share no memory with each other, nor with an argument that is written to later.
func TestLastResultsAreNew(t *testing.T) {
	all, wanted := list(0, 3, 1, 2, 2, 1, 9, 1), []int{6, 3, 1, 1}
	times := impl.LastTimes(all)
	scribbled(impl.LastTimes(all), -7)
	if again := impl.LastTimes(all); !slices.Equal(again, wanted) || !slices.Equal(times, wanted) {
		t.Errorf("then they are %v, %v", times, again)
	}
	scribbled(all, impl.Customer{Come: -7, Need: -7})
	if !slices.Equal(times, wanted) {
		t.Errorf("they became %v", times)
	}
}

// A general rule: no call leaves anything for the next one.
func TestLastSameAgain(t *testing.T) {
	sameAgain(t, func(all []impl.Customer) []int {
		numbers := impl.LastTimes(all)
		for at := -1; at <= len(all); at++ {
			numbers = append(numbers, impl.PeriodFrom(all, at), impl.LeftFor(all, at), impl.DeepAt(all, at))
		}
		return numbers
	})
}
