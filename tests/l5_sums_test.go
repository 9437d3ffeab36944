package tests

import (
	"math"
	"slices"
	"testing"

	"loop.example/onecounter/impl"
)

// timesByWords looks for the last unit in which each customer is served, and knows no ends.
func timesByWords(all []impl.Customer, order []int) []int {
	var times []int
	for at, c := range all {
		units := 0
		for time := c.Come; slices.Contains(order[min(time, len(order)):], at); time++ {
			units++
		}
		times = append(times, units)
	}
	return times
}

// thereByWords counts those who have come and are served in the unit or in one behind it.
func thereByWords(all []impl.Customer, order []int, time int) int {
	there := 0
	for at, c := range all {
		if c.Come <= time && slices.Contains(order[min(time, len(order)):], at) {
			there++
		}
	}
	return there
}

func sumOfNumbers(numbers []int) int {
	sum := 0
	for _, n := range numbers {
		sum += n
	}
	return sum
}

// counterAt is where an order has led that is not at its end.
type counterAt struct {
	time int
	left [4]int
}

// leastOfAllOrders tries each order of at most four customers that has at most so many units, also those that idle.
func leastOfAllOrders(all []impl.Customer, units int) int {
	start := counterAt{}
	for at, c := range all {
		start.left[at] = c.Need
	}
	known := map[counterAt]int{}
	var from func(s counterAt) int
	from = func(s counterAt) int {
		if s.left == [4]int{} {
			return 0
		}
		if s.time == units {
			return math.MaxInt / 2
		}
		if least, ok := known[s]; ok {
			return least
		}
		idle := s
		idle.time++
		least := from(idle)
		for at, c := range all {
			if c.Come > s.time || s.left[at] == 0 {
				continue
			}
			next := idle
			next.left[at]--
			ended := 0
			if next.left[at] == 0 {
				ended = next.time - c.Come
			}
			least = min(least, ended+from(next))
		}
		known[s] = least
		return least
	}
	return from(start)
}

// fewLists has all lists of up to three customers with small numbers, and some of four: for checks that look at all orders of each.
func fewLists() [][]impl.Customer {
	lists := [][]impl.Customer{nil, same(4, 0, 3), same(4, 2, 1), list(0, 4, 1, 3, 2, 2, 3, 1), list(0, 5, 1, 1, 2, 1, 3, 1), list(0, 2, 0, 4, 3, 1, 3, 3), list(1, 6, 1, 2, 9, 1, 9, 1), list(0, 4, 0, 4, 1, 3, 2, 2)}
	last := [][]impl.Customer{nil}
	for range 3 {
		var longer [][]impl.Customer
		for _, ahead := range last {
			for come := maxCome(ahead); come <= 3; come++ {
				for need := 1; need <= 3; need++ {
					longer = append(longer, append(slices.Clone(ahead), impl.Customer{Come: come, Need: need}))
				}
			}
		}
		lists = append(lists, longer...)
		last = longer
	}
	return lists
}

// eachOrder calls for customers with good orders of theirs.
func eachOrder(lists [][]impl.Customer, call func(all []impl.Customer, order []int)) {
	for _, all := range lists {
		for _, order := range goodOrders(all) {
			call(all, order)
		}
	}
}

// Promise 21: each is there as long as needed, at least.
func TestPromise21TimesOf(t *testing.T) {
	three, together := list(0, 3, 1, 1, 6, 1), list(2, 2, 2, 2, 2, 1)
	cases := []struct {
		all          []impl.Customer
		order, times []int
	}{
		{nil, nil, nil}, {[]impl.Customer{}, []int{}, nil}, {nil, []int{-1, -1}, nil}, {nil, behind(nil, 200), nil},
		{list(0, 1), []int{0}, []int{1}}, {list(0, 1), []int{0, -1, -1}, []int{1}}, {list(0, 1), []int{-1, -1, 0}, []int{3}}, {list(0, 2), []int{0, -1, 0}, []int{3}}, {list(3, 2), []int{-1, -1, -1, 0, 0}, []int{2}},
		{list(0, 1), behind([]int{0}, 199), []int{1}}, {list(0, 1), append(behind(nil, 199), 0), []int{200}}, {list(60, 1), append(behind(nil, 199), 0), []int{140}}, {list(60, 9), append(behind(nil, 60), slices.Repeat([]int{0}, 9)...), []int{9}},
		{three, []int{0, 0, 0, 1, -1, -1, 2}, []int{3, 3, 1}}, {three, []int{0, 1, 0, 0, -1, -1, 2}, []int{4, 1, 1}}, {three, []int{0, -1, 0, -1, 1, -1, 2, 0, -1}, []int{8, 4, 1}}, {three, []int{-1, -1, 1, 0, -1, 0, 0, 2}, []int{7, 2, 2}},
		{together, []int{-1, -1, 0, 0, 1, 1, 2}, []int{2, 4, 5}}, {together, []int{-1, -1, 2, 1, 1, 0, 0}, []int{5, 3, 1}}, {together, []int{-1, -1, 0, 1, 2, 0, 1}, []int{4, 5, 3}},
		{three, []int{1, 0, 0, 0, -1, -1, 2}, nil}, {three, []int{0, 0, 0, 1}, nil}, {three, nil, nil}, {list(0, 1), []int{1}, nil}, {list(0, 1), behind([]int{0}, 200), nil}, {nil, []int{0}, nil}, {nil, behind(nil, 201), nil},
	}
	for _, c := range cases {
		if got := impl.TimesOf(c.all, c.order); !slices.Equal(got, c.times) {
			t.Errorf("TimesOf(%v, %v) is %v, not %v", c.all, c.order, got, c.times)
		}
	}
	for _, all := range goodLists() {
		checkTimesAsTheyCome(t, all)
	}
	eachOrder(goodLists(), func(all []impl.Customer, order []int) { checkTimes(t, all, order) })
}

func checkTimesAsTheyCome(t *testing.T, all []impl.Customer) {
	t.Helper()
	times, waits := impl.TimesOf(all, impl.OrderBy(all, 0)), impl.WaitsOf(all)
	if len(times) != len(all) || len(waits) != len(all) {
		t.Fatalf("in %v the times as they come are %v, and the waits %v", all, times, waits)
	}
	for at, c := range all {
		if times[at] != waits[at]+c.Need {
			t.Fatalf("in %v the times as they come are %v, and the waits %v", all, times, waits)
		}
	}
}

func checkTimes(t *testing.T, all []impl.Customer, order []int) {
	t.Helper()
	times := impl.TimesOf(all, order)
	if !slices.Equal(times, timesByWords(all, order)) {
		t.Fatalf("TimesOf(%v, %v) is %v, not %v", all, order, times, timesByWords(all, order))
	}
	ends := impl.EndsOf(all, order)
	if len(ends) != len(all) {
		t.Fatalf("EndsOf(%v, %v) is %v", all, order, ends)
	}
	for at, c := range all {
		if times[at] < c.Need || c.Come+times[at] != ends[at] {
			t.Fatalf("TimesOf(%v, %v) is %v, EndsOf %v", all, order, times, ends)
		}
	}
}

func TestPromise21TimesOfOthers(t *testing.T) {
	otherOrders(func(all []impl.Customer, order []int) {
		if got := impl.TimesOf(all, order); len(got) != 0 {
			t.Fatalf("TimesOf(%v, %v) is %v, not nil", all, order, got)
		}
	})
}

// Promise 22: the least left first has the least sum.
func TestPromise22SumOf(t *testing.T) {
	three, together := list(0, 3, 1, 1, 6, 1), list(2, 2, 2, 2, 2, 1)
	cases := []struct {
		all   []impl.Customer
		order []int
		sum   int
	}{
		{nil, nil, 0}, {[]impl.Customer{}, []int{}, 0}, {nil, []int{-1, -1}, 0}, {nil, behind(nil, 200), 0}, {nil, behind(nil, 201), -1}, {nil, []int{0}, -1},
		{list(0, 1), []int{0}, 1}, {list(0, 1), []int{0, -1}, 1}, {list(0, 1), []int{-1, 0}, 2}, {list(0, 2), []int{0, -1, 0}, 3}, {list(0, 1), append(behind(nil, 199), 0), 200}, {list(0, 1), behind([]int{0}, 199), 1}, {list(60, 9), append(behind(nil, 191), slices.Repeat([]int{0}, 9)...), 140},
		{three, []int{0, 0, 0, 1, -1, -1, 2}, 7}, {three, []int{0, 1, 0, 0, -1, -1, 2}, 6}, {three, []int{0, 1, 0, 0, -1, -1, 2, -1}, 6}, {three, []int{0, -1, 0, -1, 1, -1, 2, 0, -1}, 13},
		{together, []int{-1, -1, 0, 0, 1, 1, 2}, 11}, {together, []int{-1, -1, 2, 0, 0, 1, 1}, 9}, {together, []int{-1, -1, 0, 1, 2, 0, 1}, 12},
		{three, []int{1, 0, 0, 0, -1, -1, 2}, -1}, {three, []int{0, 0, 0, 1}, -1}, {three, nil, -1}, {list(0, 1), []int{1}, -1}, {list(0, 1), behind([]int{0}, 200), -1},
	}
	for _, c := range cases {
		if got := impl.SumOf(c.all, c.order); got != c.sum {
			t.Errorf("SumOf(%v, %v) is %d, not %d", c.all, c.order, got, c.sum)
		}
	}
	eachOrder(goodLists(), func(all []impl.Customer, order []int) { checkSum(t, all, order) })
	eachOrder(fewLists(), func(all []impl.Customer, order []int) { checkSum(t, all, order) })
}

func checkSum(t *testing.T, all []impl.Customer, order []int) {
	t.Helper()
	sum := impl.SumOf(all, order)
	if sum != sumOfNumbers(impl.TimesOf(all, order)) || sum != sumOfNumbers(timesByWords(all, order)) {
		t.Fatalf("SumOf(%v, %v) is %d, and the times are %v", all, order, sum, timesByWords(all, order))
	}
	if sum < impl.LeastSum(all) || sum < impl.NeedOf(all) {
		t.Fatalf("SumOf(%v, %v) is %d, LeastSum %d, NeedOf %d", all, order, sum, impl.LeastSum(all), impl.NeedOf(all))
	}
}

func TestPromise22SumOfOthers(t *testing.T) {
	otherOrders(func(all []impl.Customer, order []int) {
		if got := impl.SumOf(all, order); got != -1 {
			t.Fatalf("SumOf(%v, %v) is %d, not -1", all, order, got)
		}
	})
}

// Promise 22, the other way round: no order of a few customers has less, and one has just as much.
func TestPromise22NoOrderHasLess(t *testing.T) {
	for _, all := range fewLists() {
		if got, want := impl.LeastSum(all), leastOfAllOrders(all, impl.LastLeave(all)+2); got != want {
			t.Fatalf("LeastSum(%v) is %d, and the least of all orders %d", all, got, want)
		}
	}
}

// Promise 23: by the least left nobody more is there.
func TestPromise23ThereAt(t *testing.T) {
	three, together := list(0, 3, 1, 1, 6, 1), list(2, 2, 2, 2, 2, 1)
	first, late := []int{0, 0, 0, 1, -1, -1, 2}, append(behind(nil, 191), slices.Repeat([]int{0}, 9)...)
	cases := []struct {
		all         []impl.Customer
		order       []int
		time, there int
	}{
		{nil, nil, 0, 0}, {[]impl.Customer{}, []int{}, 199, 0}, {nil, []int{-1}, 0, 0}, {nil, nil, 200, -1}, {nil, nil, -1, -1}, {nil, []int{0}, 0, -1}, {nil, behind(nil, 200), 199, 0}, {nil, behind(nil, 201), 199, -1},
		{list(0, 1), []int{0}, 0, 1}, {list(0, 1), []int{0}, 1, 0}, {list(0, 1), []int{0}, 199, 0}, {list(0, 1), []int{-1, 0}, 0, 1}, {list(0, 1), []int{-1, 0}, 1, 1}, {list(0, 1), []int{-1, 0}, 2, 0}, {list(0, 2), []int{0, -1, 0}, 1, 1},
		{list(2, 1), []int{-1, -1, 0, -1}, 1, 0}, {list(2, 1), []int{-1, -1, 0, -1}, 2, 1}, {list(2, 1), []int{-1, -1, 0, -1}, 3, 0}, {list(2, 1), []int{-1, -1, 0, -1}, 4, 0},
		{list(60, 9), late, 59, 0}, {list(60, 9), late, 60, 1}, {list(60, 9), late, 191, 1}, {list(60, 9), late, 199, 1}, {list(60, 9), late, 200, -1},
		{three, first, 0, 1}, {three, first, 1, 2}, {three, first, 2, 2}, {three, first, 3, 1}, {three, first, 4, 0}, {three, first, 5, 0}, {three, first, 6, 1}, {three, first, 7, 0}, {three, first, 199, 0},
		{three, []int{0, 1, 0, 0, -1, -1, 2}, 1, 2}, {three, []int{0, 1, 0, 0, -1, -1, 2}, 2, 1}, {three, []int{0, 1, 0, 0, -1, -1, 2}, 4, 0}, {three, []int{0, -1, 0, -1, 1, -1, 2, 0}, 6, 2},
		{together, []int{-1, -1, 0, 0, 1, 1, 2}, 1, 0}, {together, []int{-1, -1, 0, 0, 1, 1, 2}, 2, 3}, {together, []int{-1, -1, 0, 0, 1, 1, 2}, 4, 2}, {together, []int{-1, -1, 0, 0, 1, 1, 2}, 6, 1}, {together, []int{-1, -1, 0, 0, 1, 1, 2}, 7, 0}, {same(8, 0, 9), orderByWords(same(8, 0, 9), 3), 0, 8}, {same(8, 0, 9), orderByWords(same(8, 0, 9), 3), 64, 8}, {same(8, 0, 9), orderByWords(same(8, 0, 9), 3), 65, 7},
		{three, first, -1, -1}, {three, first, 200, -1}, {three, first, 201, -1}, {three, first, math.MinInt, -1}, {three, first, math.MaxInt, -1}, {three, nil, 0, -1}, {three, []int{0, 0, 0, 1}, 0, -1}, {list(0, 1), behind([]int{0}, 199), 0, 1}, {list(0, 1), behind([]int{0}, 200), 0, -1},
	}
	for _, c := range cases {
		if got := impl.ThereAt(c.all, c.order, c.time); got != c.there {
			t.Errorf("ThereAt(%v, %v, %d) is %d, not %d", c.all, c.order, c.time, got, c.there)
		}
	}
	eachOrder(someLists(), func(all []impl.Customer, order []int) { checkThere(t, all, order) })
}

func checkThere(t *testing.T, all []impl.Customer, order []int) {
	t.Helper()
	least := impl.OrderBy(all, 2)
	for time := range 200 {
		got := impl.ThereAt(all, order, time)
		if want := thereByWords(all, order, time); got != want {
			t.Fatalf("ThereAt(%v, %v, %d) is %d, not %d", all, order, time, got, want)
		}
		if by2 := impl.ThereAt(all, least, time); by2 < 0 || got < by2 {
			t.Fatalf("ThereAt(%v, %v, %d) is %d, and %d by the rule 2", all, order, time, got, by2)
		}
	}
}

func TestPromise23ThereAtOfOthers(t *testing.T) {
	eachOrder(someLists(), func(all []impl.Customer, order []int) {
		for _, time := range append(timesPast(), 200) {
			if got := impl.ThereAt(all, order, time); got != -1 {
				t.Fatalf("ThereAt(%v, %v, %d) is %d, not -1", all, order, time, got)
			}
		}
	})
	otherOrders(func(all []impl.Customer, order []int) {
		for _, time := range []int{0, 1, 60, 199, -1, 200} {
			if got := impl.ThereAt(all, order, time); got != -1 {
				t.Fatalf("ThereAt(%v, %v, %d) is %d, not -1", all, order, time, got)
			}
		}
	})
}

// Promise 24: no rule has less.
func TestPromise24LeastSum(t *testing.T) {
	cases := []struct {
		all []impl.Customer
		sum int
	}{
		{nil, 0}, {[]impl.Customer{}, 0}, {list(0, 1), 1}, {list(0, 9), 9}, {list(60, 9), 9}, {list(3, 4), 4},
		{list(0, 3, 1, 1, 6, 1), 6}, {list(0, 3, 1, 2), 7}, {list(0, 4, 1, 2), 8}, {list(0, 9, 1, 1, 2, 1, 3, 1), 15}, {list(0, 9, 8, 1, 60, 1), 12},
		{list(2, 2, 2, 2, 2, 1), 9}, {list(5, 3, 5, 1), 5}, {list(5, 1, 5, 3), 5}, {same(8, 0, 1), 36}, {same(8, 60, 9), 324}, {same(3, 5, 4), 24},
		{same(9, 0, 1), -1}, {list(-1, 3), -1}, {list(61, 3), -1}, {list(0, 0), -1}, {list(0, 10), -1}, {list(2, 3, 1, 3), -1},
	}
	for _, c := range cases {
		if got := impl.LeastSum(c.all); got != c.sum {
			t.Errorf("LeastSum(%v) is %d, not %d", c.all, got, c.sum)
		}
	}
	for _, all := range append(goodLists(), fewLists()...) {
		checkLeastSum(t, all)
	}
}

func checkLeastSum(t *testing.T, all []impl.Customer) {
	t.Helper()
	least := impl.LeastSum(all)
	if want := sumOfNumbers(timesByWords(all, orderByWords(all, 2))); least != want {
		t.Fatalf("LeastSum(%v) is %d, not %d", all, least, want)
	}
	for rule := range impl.Rules {
		if sum := impl.SumOf(all, impl.OrderBy(all, rule)); least > sum {
			t.Fatalf("LeastSum(%v) is %d, and %d by the rule %d", all, least, sum, rule)
		}
	}
	if len(all) == 0 {
		return
	}
	last := len(all) - 1
	if without := impl.LeastSum(all[:last]); least-without < all[last].Need {
		t.Fatalf("LeastSum(%v) is %d, and %d without the last customer", all, least, without)
	}
}

func TestPromise24LeastSumOfOthers(t *testing.T) {
	for _, all := range append(othersOfEachKind(), badLists()...) {
		if got := impl.LeastSum(all); got != -1 {
			t.Fatalf("LeastSum(%v) is %d, not -1", all, got)
		}
	}
}

// Promise 25: without waits each is there as needed.
func TestPromise25SpreadOf(t *testing.T) {
	three, together := list(0, 3, 1, 1, 6, 1), list(2, 2, 2, 2, 2, 1)
	cases := []struct {
		all    []impl.Customer
		order  []int
		spread int
	}{
		{nil, nil, 0}, {[]impl.Customer{}, []int{}, 0}, {nil, []int{-1, -1}, 0}, {nil, behind(nil, 200), 0}, {nil, behind(nil, 201), -1}, {nil, []int{0}, -1},
		{list(0, 1), []int{0}, 0}, {list(0, 9), slices.Repeat([]int{0}, 9), 0}, {list(0, 1), []int{0, -1, -1}, 0}, {list(0, 1), []int{-1, 0}, 1}, {list(0, 2), []int{0, -1, 0}, 1}, {list(3, 2), []int{-1, -1, -1, 0, 0}, 0}, {list(0, 1), append(behind(nil, 199), 0), 199}, {list(0, 1), behind([]int{0}, 199), 0}, {list(60, 9), append(behind(nil, 191), slices.Repeat([]int{0}, 9)...), 131},
		{list(0, 2, 2, 1, 60, 9), orderByWords(list(0, 2, 2, 1, 60, 9), 0), 0}, {list(0, 2, 1, 1), []int{0, 0, 1}, 1}, {list(0, 2, 1, 1), []int{0, 1, 0}, 1},
		{three, []int{0, 0, 0, 1, -1, -1, 2}, 2}, {three, []int{0, 1, 0, 0, -1, -1, 2}, 1}, {three, []int{0, 1, 0, 0, -1, -1, -1, -1, 2}, 2}, {three, []int{0, -1, 0, -1, 1, -1, 2, 0, -1}, 5},
		{together, []int{-1, -1, 0, 0, 1, 1, 2}, 4}, {together, []int{-1, -1, 2, 0, 0, 1, 1}, 3}, {together, []int{-1, -1, 0, 1, 2, 0, 1}, 3}, {same(8, 0, 9), orderByWords(same(8, 0, 9), 1), 63},
		{three, []int{1, 0, 0, 0, -1, -1, 2}, -1}, {three, []int{0, 0, 0, 1}, -1}, {three, nil, -1}, {list(0, 1), []int{1}, -1}, {list(0, 1), behind([]int{0}, 200), -1},
	}
	for _, c := range cases {
		if got := impl.SpreadOf(c.all, c.order); got != c.spread {
			t.Errorf("SpreadOf(%v, %v) is %d, not %d", c.all, c.order, got, c.spread)
		}
	}
	eachOrder(goodLists(), func(all []impl.Customer, order []int) { checkSpread(t, all, order) })
}

func checkSpread(t *testing.T, all []impl.Customer, order []int) {
	t.Helper()
	spread, most := impl.SpreadOf(all, order), 0
	var needs []int
	for at, time := range timesByWords(all, order) {
		most = max(most, time-all[at].Need)
		needs = append(needs, all[at].Need)
	}
	if spread != most || spread > len(order) {
		t.Fatalf("SpreadOf(%v, %v) is %d, not %d", all, order, spread, most)
	}
	if times := impl.TimesOf(all, order); (spread == 0) != slices.Equal(times, needs) {
		t.Fatalf("SpreadOf(%v, %v) is %d, TimesOf %v", all, order, spread, times)
	}
}

func TestPromise25SpreadOfOthers(t *testing.T) {
	otherOrders(func(all []impl.Customer, order []int) {
		if got := impl.SpreadOf(all, order); got != -1 {
			t.Fatalf("SpreadOf(%v, %v) is %d, not -1", all, order, got)
		}
	})
}

// A general rule: arguments are never written to, whether they are customers and orders or not.
func TestSumsArgumentsAreNotWrittenTo(t *testing.T) {
	allUntouched(t, func(part []impl.Customer, units []int) {
		scribbled(impl.TimesOf(part, units), -7)
		impl.SumOf(part, units)
		impl.LeastSum(part)
		impl.SpreadOf(part, units)
		for _, time := range []int{-1, 0, 1, 60, 199, 200} {
			impl.ThereAt(part, units, time)
		}
	})
}

// A general rule: results share no memory with each other, nor with an argument that is written to later.
func TestSumsResultsAreNew(t *testing.T) {
	all, order, wanted := list(0, 3, 1, 1, 6, 1), []int{0, 0, 0, 1, -1, -1, 2}, []int{3, 3, 1}
	times := impl.TimesOf(all, order)
	scribbled(impl.TimesOf(all, order), -7)
	scribbled(impl.EndsOf(all, order), -7)
	if again := impl.TimesOf(all, order); !slices.Equal(again, wanted) || !slices.Equal(times, wanted) {
		t.Errorf("then they are %v, %v", times, again)
	}
	scribbled(all, impl.Customer{Come: -7, Need: -7})
	scribbled(order, -7)
	if !slices.Equal(times, wanted) {
		t.Errorf("they became %v", times)
	}
}

// A general rule: no call leaves anything for the next one.
func TestSumsSameAgain(t *testing.T) {
	sameAgain(t, func(all []impl.Customer) []int {
		numbers := []int{impl.LeastSum(all)}
		for rule := range 5 {
			order := impl.OrderBy(all, rule)
			numbers = append(numbers, impl.TimesOf(all, order)...)
			numbers = append(numbers, impl.SumOf(all, order), impl.SpreadOf(all, order))
			for _, time := range []int{-1, 0, 1, 7, 60, 199, 200} {
				numbers = append(numbers, impl.ThereAt(all, order, time))
			}
		}
		return numbers
	})
}
