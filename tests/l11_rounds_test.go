package tests

import (
	"math"
	"slices"
	"testing"

	"loop.example/onecounter/impl"
)

// turnsByWords keeps no row: it looks in each unit for who is waiting longest for a turn, of equal ones first the one who was served in the unit before, and then the one with the least place.
func turnsByWords(all []impl.Customer) []int {
	var order, left []int
	var since [][]int
	sum := 0
	for at, c := range all {
		since, left = append(since, []int{c.Come, at}), append(left, c.Need)
		sum += c.Need
	}
	for time := 0; sum > 0; time++ {
		who := -1
		for at := range all {
			if left[at] > 0 && since[at][0] <= time && (who == -1 || slices.Compare(since[at], since[who]) < 0) {
				who = at
			}
		}
		if who >= 0 {
			since[who] = []int{time + 1, -1}
			left[who]--
			sum--
		}
		order = append(order, who)
	}
	return order
}

// endsByWords has for each customer the unit behind the last one in which this one is served.
func endsByWords(all []impl.Customer, order []int) []int {
	ends := make([]int, len(all))
	for time, who := range order {
		if who >= 0 {
			ends[who] = time + 1
		}
	}
	return ends
}

// aheadByWords goes from each beginning to each end, and counts the units of both.
func aheadByWords(all []impl.Customer, order []int, a, b int) int {
	ends, greatest := endsByWords(all, order), 0
	for from := max(all[a].Come, all[b].Come); from <= min(ends[a], ends[b]); from++ {
		ofA, ofB := 0, 0
		for _, who := range order[from:max(from, min(ends[a], ends[b]))] {
			if who == a {
				ofA++
			}
			if who == b {
				ofB++
			}
			greatest = max(greatest, ofA-ofB, ofB-ofA)
		}
	}
	return greatest
}

// turnsOrders has good orders of customers, and the one by turns, with and without units behind it.
func turnsOrders(all []impl.Customer) [][]int {
	turns := turnsByWords(all)
	return append(goodOrders(all), turns, behind(turns, 2), behind(turns, 200-len(turns)))
}

// eachPair calls for all two customers, who may be one, of orders.
func eachPair(lists [][]impl.Customer, call func(all []impl.Customer, order []int, a, b int)) {
	for _, all := range lists {
		for _, order := range turnsOrders(all) {
			for a := range all {
				for b := range all {
					call(all, order, a, b)
				}
			}
		}
	}
}

// roundLists has all lists of customers that the checks of rounds look at.
func roundLists() [][]impl.Customer {
	return append(besideLists(), listsAt0()...)
}

// listsAt0 has customers who all come at 0: all needs of up to three, and some of up to eight, of whom some need as much as others.
func listsAt0() [][]impl.Customer {
	var lists [][]impl.Customer
	for long := range 4 {
		for _, needs := range allRows(long, 1, 9) {
			lists = append(lists, needing(needs))
		}
	}
	next := numbersFrom(5)
	for many := 4; many <= 8; many++ {
		for _, most := range []int{1, 2, 4, 9} {
			for range 40 {
				var needs []int
				for range many {
					needs = append(needs, 1+next(most))
				}
				lists = append(lists, needing(needs))
			}
		}
	}
	return lists
}

// needing has customers with these needs, who all come at 0.
func needing(needs []int) []impl.Customer {
	var all []impl.Customer
	for _, need := range needs {
		all = append(all, impl.Customer{Need: need})
	}
	return all
}

// endsAt0 tells by needs alone when those who all come at 0 end: before one ends, each one ahead has as many turns, and each one behind has one turn less, or as many as needed.
func endsAt0(all []impl.Customer) []int {
	var ends []int
	for at, c := range all {
		end := 0
		for other, o := range all {
			if other <= at {
				end += min(o.Need, c.Need)
			} else {
				end += min(o.Need, c.Need-1)
			}
		}
		ends = append(ends, end)
	}
	return ends
}

// roundCase has for customers who is served in each unit, and when each ends.
type roundCase struct {
	all         []impl.Customer
	order, ends []int
}

func roundCases() []roundCase {
	late := behind(nil, 60)
	one, eight := slices.Repeat([]int{0}, 9), slices.Repeat([]int{0, 1, 2, 3, 4, 5, 6, 7}, 9)
	return []roundCase{
		{nil, nil, nil}, {[]impl.Customer{}, nil, nil},
		{list(0, 1), []int{0}, []int{1}}, {list(0, 9), one, []int{9}}, {list(2, 2), []int{-1, -1, 0, 0}, []int{4}}, {list(60, 9), slices.Concat(late, one), []int{69}},
		{list(0, 3, 1, 1, 6, 1), []int{0, 0, 1, 0, -1, -1, 2}, []int{4, 3, 7}}, {list(0, 4, 1, 2, 9, 1), []int{0, 0, 1, 0, 1, 0, -1, -1, -1, 2}, []int{6, 5, 10}},
		// Who comes when a unit of another one ends goes behind that one, if units are left.
		{list(0, 2, 1, 2), []int{0, 0, 1, 1}, []int{2, 4}}, {list(0, 3, 1, 2), []int{0, 0, 1, 0, 1}, []int{4, 5}}, {list(0, 3, 2, 2), []int{0, 0, 0, 1, 1}, []int{3, 5}}, {list(0, 4, 2, 2), []int{0, 0, 0, 1, 0, 1}, []int{5, 6}}, {list(0, 2, 2, 1), []int{0, 0, 1}, []int{2, 3}}, {list(0, 2, 3, 1), []int{0, 0, -1, 1}, []int{2, 4}},
		{list(0, 3, 1, 1, 1, 2), []int{0, 0, 1, 2, 0, 2}, []int{5, 3, 6}}, {list(0, 2, 0, 2, 1, 1), []int{0, 1, 0, 2, 1}, []int{3, 5, 4}}, {list(0, 1, 0, 2, 1, 1), []int{0, 1, 2, 1}, []int{1, 4, 3}}, {list(0, 2, 0, 2, 2, 1), []int{0, 1, 0, 1, 2}, []int{3, 4, 5}}, {list(0, 2, 0, 3, 2, 1), []int{0, 1, 0, 1, 2, 1}, []int{3, 6, 5}},
		{list(0, 3, 1, 3, 2, 3, 3, 1), []int{0, 0, 1, 0, 2, 1, 3, 2, 1, 2}, []int{4, 9, 10, 7}},
		// Customers who come together, with needs that are alike and with others.
		{same(2, 0, 2), []int{0, 1, 0, 1}, []int{3, 4}}, {same(3, 0, 2), []int{0, 1, 2, 0, 1, 2}, []int{4, 5, 6}}, {list(0, 1, 0, 3), []int{0, 1, 1, 1}, []int{1, 4}}, {list(0, 3, 0, 1), []int{0, 1, 0, 0}, []int{4, 2}}, {list(0, 3, 0, 1, 0, 2), []int{0, 1, 2, 0, 2, 0}, []int{6, 2, 5}},
		{list(5, 2, 5, 3, 5, 4), append(behind(nil, 5), 0, 1, 2, 0, 1, 2, 1, 2, 2), []int{9, 12, 14}}, {list(0, 2, 1, 1, 1, 1, 1, 2), []int{0, 0, 1, 2, 3, 3}, []int{2, 3, 4, 6}},
		{same(8, 0, 1), eight[:8], []int{1, 2, 3, 4, 5, 6, 7, 8}}, {same(8, 0, 9), eight, []int{65, 66, 67, 68, 69, 70, 71, 72}}, {same(8, 60, 9), slices.Concat(late, eight), []int{125, 126, 127, 128, 129, 130, 131, 132}}, {same(8, 60, 1), slices.Concat(late, eight[:8]), []int{61, 62, 63, 64, 65, 66, 67, 68}},
		{list(0, 2, 0, 1, 0, 2, 0, 1, 0, 2, 0, 1, 0, 2, 0, 1), []int{0, 1, 2, 3, 4, 5, 6, 7, 0, 2, 4, 6}, []int{9, 2, 10, 4, 11, 6, 12, 8}},
		// Gaps in which nobody is there.
		{list(0, 2, 0, 1, 30, 2, 30, 2), slices.Concat([]int{0, 1, 0}, behind(nil, 27), []int{2, 3, 2, 3}), []int{3, 2, 33, 34}}, {list(0, 1, 60, 1), slices.Concat([]int{0}, behind(nil, 59), []int{1}), []int{1, 61}}, {list(1, 1, 3, 2, 4, 1, 7, 1), []int{-1, 0, -1, 1, 1, 2, -1, 3}, []int{2, 5, 6, 8}},
	}
}

// noRounds has lists that are no customers.
func noRounds() [][]impl.Customer {
	return append(othersOfEachKind(), badLists()...)
}

func TestListsGoRound(t *testing.T) {
	// How often one comes just when a unit of another one ends who needs more, or who does not, how often two do, and how often all eight are in the row.
	more, done, two, eight := 0, 0, 0, 0
	for _, all := range roundLists() {
		order := turnsByWords(all)
		for at, c := range all {
			if c.Come == 0 || order[c.Come-1] == -1 {
				continue
			}
			if slices.Contains(order[c.Come:], order[c.Come-1]) {
				more++
			} else {
				done++
			}
			if at > 0 && all[at-1].Come == c.Come {
				two++
			}
		}
		if ends := endsByWords(all, order); len(all) == 8 && all[7].Come < slices.Min(ends) {
			eight++
		}
	}
	if more < 300 || done < 100 || two < 100 || eight < 50 {
		t.Fatalf("%d and %d come when a unit ends, of whom %d are two, and %d lists are in the row at once", more, done, two, eight)
	}
}

// Promise 51: rounds do not idle.
func TestPromise51RoundOrder(t *testing.T) {
	for _, c := range roundCases() {
		if got := impl.RoundOrder(c.all); !slices.Equal(got, c.order) {
			t.Errorf("RoundOrder(%v) is %v, not %v", c.all, got, c.order)
		}
	}
	for _, all := range roundLists() {
		checkRoundOrder(t, all)
	}
	for _, all := range noRounds() {
		if got := impl.RoundOrder(all); len(got) != 0 {
			t.Fatalf("RoundOrder(%v) is %v, not nil", all, got)
		}
	}
}

func checkRoundOrder(t *testing.T, all []impl.Customer) {
	t.Helper()
	order := impl.RoundOrder(all)
	if want := turnsByWords(all); !slices.Equal(order, want) {
		t.Fatalf("RoundOrder(%v) is %v, not %v", all, order, want)
	}
	if !impl.OrderOk(all, order) || !impl.BusyOk(all, order) {
		t.Fatalf("RoundOrder(%v) is %v, which idles, or is none", all, order)
	}
	for a := range all {
		for b := range all {
			if ahead := impl.AheadBy(all, order, a, b); ahead < 0 || ahead > 1 {
				t.Fatalf("RoundOrder(%v) is %v, in which %d and %d are ahead by %d", all, order, a, b, ahead)
			}
		}
	}
}

// unitsCase has in how many units one is served.
type unitsCase struct {
	all                  []impl.Customer
	order                []int
	who, from, to, units int
}

func unitsCases() []unitsCase {
	three, turns, idle := list(0, 3, 1, 1, 6, 1), []int{0, 0, 1, 0, -1, -1, 2}, []int{0, -1, 0, -1, 1, -1, 2, 0, -1}
	late := append(behind(nil, 191), slices.Repeat([]int{0}, 9)...)
	return []unitsCase{
		{three, turns, 0, 0, 3, 2}, {three, turns, 0, 0, 2, 2}, {three, turns, 0, 1, 4, 2}, {three, turns, 0, 2, 3, 0}, {three, turns, 0, 3, 4, 1}, {three, turns, 0, 4, 200, 0}, {three, turns, 1, 0, 2, 0}, {three, turns, 1, 2, 3, 1}, {three, turns, 1, 3, 7, 0}, {three, turns, 2, 0, 6, 0}, {three, turns, 2, 6, 7, 1}, {three, turns, 2, 0, 200, 1}, {three, turns, 0, 0, 200, 3},
		{three, idle, 0, 0, 3, 2}, {three, idle, 0, 1, 2, 0}, {three, idle, 0, 2, 8, 2}, {three, idle, 0, 8, 9, 0}, {three, idle, 1, 4, 5, 1},
		// A beginning that is the end, behind the last unit, too.
		{three, turns, 0, 0, 0, 0}, {three, turns, 0, 3, 3, 0}, {three, turns, 2, 7, 7, 0}, {three, turns, 2, 8, 8, 0}, {three, turns, 0, 200, 200, 0}, {three, turns, 0, 8, 100, 0}, {three, turns, 0, 199, 200, 0},
		{list(0, 1), []int{0}, 0, 0, 1, 1}, {list(0, 1), []int{0}, 0, 1, 1, 0}, {list(0, 1), []int{0}, 0, 1, 200, 0}, {list(60, 9), late, 0, 0, 191, 0}, {list(60, 9), late, 0, 191, 200, 9}, {list(60, 9), late, 0, 199, 200, 1}, {list(60, 9), late, 0, 0, 200, 9},
		{same(8, 60, 9), turnsByWords(same(8, 60, 9)), 7, 60, 132, 9}, {same(8, 60, 9), turnsByWords(same(8, 60, 9)), 7, 60, 67, 0}, {same(8, 60, 9), turnsByWords(same(8, 60, 9)), 0, 60, 69, 2},
		{three, turns, -1, 0, 3, -1}, {three, turns, 3, 0, 3, -1}, {three, turns, math.MinInt, 0, 7, -1}, {three, turns, math.MaxInt, 0, 7, -1}, {three, turns, -1, 4, 6, -1}, {nil, nil, 0, 0, 0, -1}, {nil, nil, -1, 0, 0, -1}, {nil, behind(nil, 2), -1, 0, 2, -1}, {[]impl.Customer{}, []int{}, 0, 0, 200, -1},
		{three, turns, 0, -1, 3, -1}, {three, turns, 0, 4, 3, -1}, {three, turns, 0, 1, 0, -1}, {three, turns, 0, 0, -1, -1}, {three, turns, 0, -1, -1, -1}, {three, turns, 0, -2, -1, -1}, {three, turns, 0, 0, 201, -1}, {three, turns, 0, 200, 201, -1}, {three, turns, 0, 201, 201, -1}, {three, turns, 0, 201, 200, -1}, {three, turns, 0, math.MinInt, 0, -1}, {three, turns, 0, math.MinInt, math.MaxInt, -1}, {three, turns, 0, 0, math.MaxInt, -1}, {three, turns, 0, math.MaxInt, 0, -1}, {three, turns, 0, math.MaxInt, math.MaxInt, -1},
		{three, nil, 0, 0, 3, -1}, {three, turns[:6], 0, 0, 3, -1}, {three, []int{0, 0, 1, 0, -2, -1, 2}, 0, 0, 3, -1}, {three, []int{1, 0, 0, 0, -1, -1, 2}, 0, 0, 3, -1}, {three, behind(turns, 193), 0, 0, 3, 2}, {three, behind(turns, 194), 0, 0, 3, -1}, {list(0, 1), []int{1}, 0, 0, 1, -1},
		{same(9, 0, 1), []int{0, 1, 2, 3, 4, 5, 6, 7, 8}, 0, 0, 3, -1}, {list(-1, 1), []int{0}, 0, 0, 1, -1}, {list(61, 1), append(behind(nil, 61), 0), 0, 0, 1, -1}, {list(0, 0), nil, 0, 0, 1, -1}, {list(0, 10), slices.Repeat([]int{0}, 10), 0, 0, 1, -1}, {list(1, 1, 0, 1), []int{1, 0}, 0, 0, 2, -1},
	}
}

// Promise 52: units of parts are units.
func TestPromise52UnitsIn(t *testing.T) {
	for _, c := range unitsCases() {
		if got := impl.UnitsIn(c.all, c.order, c.who, c.from, c.to); got != c.units {
			t.Errorf("UnitsIn(%v, %v, %d, %d, %d) is %d, not %d", c.all, c.order, c.who, c.from, c.to, got, c.units)
		}
	}
	for _, all := range someLists() {
		for i, order := range turnsOrders(all) {
			for who := range all {
				checkUnits(t, all, order, who, someTimes(uint32(i)))
			}
		}
	}
	every := countedTo(201)
	checkUnits(t, list(0, 3, 1, 1, 6, 1), []int{0, 0, 1, 0, -1, -1, 2}, 0, every)
	checkUnits(t, same(8, 60, 9), turnsByWords(same(8, 60, 9)), 3, every)
	checkUnits(t, list(60, 9), append(behind(nil, 191), slices.Repeat([]int{0}, 9)...), 0, every)
}

// someTimes has times that are looked at, in order, the first and the last ones among them.
func someTimes(seed uint32) []int {
	times, next := []int{0, 1, 2, 60, 61, 199, 200}, numbersFrom(seed)
	for range 5 {
		times = append(times, next(20), next(140))
	}
	slices.Sort(times)
	return times
}

// checkUnits looks at each beginning and each end of times in order.
func checkUnits(t *testing.T, all []impl.Customer, order []int, who int, times []int) {
	t.Helper()
	var from0 [201]int
	for time := range 200 {
		from0[time+1] = from0[time]
		if time < len(order) && order[time] == who {
			from0[time+1]++
		}
	}
	if units := impl.UnitsIn(all, order, who, 0, 200); units != all[who].Need {
		t.Fatalf("UnitsIn(%v, %v, %d, 0, 200) is %d", all, order, who, units)
	}
	for i, from := range times {
		whole := impl.UnitsIn(all, order, who, from, 200)
		for _, to := range times[i:] {
			units := impl.UnitsIn(all, order, who, from, to)
			if want := from0[to] - from0[from]; units != want {
				t.Fatalf("UnitsIn(%v, %v, %d, %d, %d) is %d, not %d", all, order, who, from, to, units, want)
			}
			if rest := impl.UnitsIn(all, order, who, to, 200); units+rest != whole {
				t.Fatalf("UnitsIn(%v, %v, %d, %d, 200) is %d, up to %d and from it on %d and %d", all, order, who, from, whole, to, units, rest)
			}
		}
	}
}

// refusedUnits reports it if units are told.
func refusedUnits(t *testing.T, all []impl.Customer, order []int, who, from, to int) {
	t.Helper()
	if got := impl.UnitsIn(all, order, who, from, to); got != -1 {
		t.Fatalf("UnitsIn(%v, %v, %d, %d, %d) is %d, not -1", all, order, who, from, to, got)
	}
}

func TestPromise52UnitsInOfOthers(t *testing.T) {
	parts := [][]int{{0, 0}, {0, 1}, {0, 3}, {2, 60}, {0, 200}, {200, 200}}
	otherOrders(func(all []impl.Customer, order []int) {
		for _, who := range []int{-1, 0, len(all) - 1, len(all)} {
			for _, part := range parts {
				refusedUnits(t, all, order, who, part[0], part[1])
			}
		}
	})
	for _, all := range someLists() {
		for _, order := range turnsOrders(all) {
			for _, who := range pastPlaces(len(all)) {
				for _, part := range parts {
					refusedUnits(t, all, order, who, part[0], part[1])
				}
			}
			for who := range all {
				refusedParts(t, all, order, who)
			}
		}
	}
}

func refusedParts(t *testing.T, all []impl.Customer, order []int, who int) {
	t.Helper()
	for _, past := range timesPast() {
		for _, time := range []int{0, 1, len(order), 200} {
			refusedUnits(t, all, order, who, past, time)
			refusedUnits(t, all, order, who, time, past)
		}
		refusedUnits(t, all, order, who, past, past)
	}
	for _, from := range []int{1, 2, 60, len(order), 200} {
		refusedUnits(t, all, order, who, from, from-1)
		refusedUnits(t, all, order, who, from, 0)
	}
}

// aheadCase has by how many units one of two is ahead at most.
type aheadCase struct {
	all         []impl.Customer
	order       []int
	a, b, ahead int
}

func aheadCases() []aheadCase {
	three, turns, first := list(0, 3, 1, 1, 6, 1), []int{0, 0, 1, 0, -1, -1, 2}, []int{0, 0, 0, 1, -1, -1, 2}
	two, back := list(0, 4, 0, 4), list(0, 9, 0, 9)
	return []aheadCase{
		{three, turns, 0, 1, 1}, {three, turns, 1, 0, 1}, {three, first, 0, 1, 2}, {three, []int{0, 1, 0, 0, -1, -1, 2}, 0, 1, 1}, {three, turns, 0, 2, 0}, {three, turns, 2, 1, 0}, {three, []int{-1, -1, 1, 0, -1, 0, 0, 2}, 0, 2, 1}, {three, []int{-1, -1, 1, 0, -1, 0, 2, 0}, 0, 2, 1},
		// One given twice.
		{three, turns, 0, 0, 0}, {three, turns, 2, 2, 0}, {list(0, 1), []int{0}, 0, 0, 0}, {list(60, 9), append(behind(nil, 191), slices.Repeat([]int{0}, 9)...), 0, 0, 0}, {same(8, 0, 9), orderByWords(same(8, 0, 9), 1), 3, 3, 0},
		// The greatest difference begins later than both come, in the middle, and ends before the earlier end.
		{two, []int{0, 1, 1, 0, 0, 0, 1, 1}, 0, 1, 3}, {two, []int{0, 0, 1, 1, 1, 0, 0, 1}, 0, 1, 3}, {two, []int{0, 0, 1, 1, 1, 1, 0, 0}, 0, 1, 4}, {two, []int{0, 1, 1, 1, 0, 0, 0, 1}, 1, 0, 3}, {two, []int{0, 1, 0, 1, 0, 1, 0, 1}, 0, 1, 1}, {two, []int{0, 1, 1, 0, 1, 0, 0, 1}, 0, 1, 2}, {two, []int{0, 0, 0, 0, 1, 1, 1, 1}, 0, 1, 4},
		{back, slices.Concat([]int{0}, slices.Repeat([]int{1}, 9), slices.Repeat([]int{0}, 8)), 0, 1, 9}, {back, slices.Repeat([]int{0, 1}, 9), 1, 0, 1}, {back, append(slices.Repeat([]int{0}, 9), slices.Repeat([]int{1}, 9)...), 0, 1, 9},
		// Units before the later one comes, and units behind the earlier end, do not count.
		{list(0, 5, 4, 1), []int{0, 0, 0, 0, 1, 0}, 0, 1, 1}, {list(0, 5, 4, 1), []int{0, 0, 0, 0, 0, 1}, 0, 1, 1}, {list(0, 5, 3, 1), []int{0, 0, 0, 0, 0, 1}, 0, 1, 2}, {list(0, 1, 0, 9), append([]int{0}, slices.Repeat([]int{1}, 9)...), 0, 1, 1}, {list(0, 1, 0, 9), append(slices.Repeat([]int{1}, 5), 0, 1, 1, 1, 1), 0, 1, 5},
		// One ends just when the other one comes, one unit later, and before.
		{list(0, 3, 3, 3), []int{0, 0, 0, 1, 1, 1}, 0, 1, 0}, {list(0, 3, 2, 3), []int{0, 0, 0, 1, 1, 1}, 0, 1, 1}, {list(0, 3, 4, 3), []int{0, 0, 0, -1, 1, 1, 1}, 1, 0, 0}, {list(0, 1, 60, 9), append(behind([]int{0}, 59), slices.Repeat([]int{1}, 9)...), 0, 1, 0},
		{same(8, 60, 9), turnsByWords(same(8, 60, 9)), 0, 7, 1}, {same(8, 60, 9), orderByWords(same(8, 60, 9), 0), 0, 7, 9}, {same(8, 60, 9), orderByWords(same(8, 60, 9), 1), 0, 7, 9}, {list(0, 1, 0, 1), append(behind([]int{0}, 198), 1), 1, 0, 1},
		{three, turns, 0, 3, -1}, {three, turns, 3, 0, -1}, {three, turns, -1, 0, -1}, {three, turns, 0, -1, -1}, {three, turns, -1, -1, -1}, {three, turns, 3, 3, -1}, {three, turns, math.MinInt, 1, -1}, {three, turns, 1, math.MaxInt, -1}, {nil, nil, 0, 0, -1}, {nil, nil, -1, -1, -1}, {nil, behind(nil, 2), -1, -1, -1}, {[]impl.Customer{}, []int{}, 0, 0, -1},
		{three, nil, 0, 1, -1}, {three, turns[:6], 0, 1, -1}, {three, []int{1, 0, 0, 0, -1, -1, 2}, 0, 1, -1}, {three, []int{0, 0, 1, 0, -1, -2, 2}, 0, 1, -1}, {three, behind(turns, 193), 0, 1, 1}, {three, behind(turns, 194), 0, 1, -1}, {three, nil, 0, 0, -1},
		{same(9, 0, 1), []int{0, 1, 2, 3, 4, 5, 6, 7, 8}, 0, 1, -1}, {list(-1, 1), []int{0}, 0, 0, -1}, {list(61, 1), append(behind(nil, 61), 0), 0, 0, -1}, {list(0, 0), nil, 0, 0, -1}, {list(0, 10), slices.Repeat([]int{0}, 10), 0, 0, -1}, {list(1, 1, 0, 1), []int{1, 0}, 0, 1, -1},
	}
}

// Promise 53: ahead is ahead both ways.
func TestPromise53AheadBy(t *testing.T) {
	for _, c := range aheadCases() {
		if got := impl.AheadBy(c.all, c.order, c.a, c.b); got != c.ahead {
			t.Errorf("AheadBy(%v, %v, %d, %d) is %d, not %d", c.all, c.order, c.a, c.b, got, c.ahead)
		}
	}
	eachPair(someLists(), func(all []impl.Customer, order []int, a, b int) { checkAhead(t, all, order, a, b) })
	eachPair(fewLists(), func(all []impl.Customer, order []int, a, b int) { checkAhead(t, all, order, a, b) })
}

func checkAhead(t *testing.T, all []impl.Customer, order []int, a, b int) {
	t.Helper()
	ahead := impl.AheadBy(all, order, a, b)
	if want := aheadByWords(all, order, a, b); ahead != want {
		t.Fatalf("AheadBy(%v, %v, %d, %d) is %d, not %d", all, order, a, b, ahead, want)
	}
	if other := impl.AheadBy(all, order, b, a); ahead != other {
		t.Fatalf("AheadBy(%v, %v, %d, %d) is %d, and for both exchanged %d", all, order, a, b, ahead, other)
	}
	if ahead > max(all[a].Need, all[b].Need) || a == b && ahead != 0 {
		t.Fatalf("AheadBy(%v, %v, %d, %d) is %d", all, order, a, b, ahead)
	}
}

// Promise 53, told by UnitsIn over all beginnings and ends.
func TestPromise53AheadByUnits(t *testing.T) {
	lists := [][]impl.Customer{list(0, 3, 1, 1, 6, 1), list(0, 4, 0, 4), list(0, 4, 0, 4, 1, 3, 2, 2), list(2, 3, 5, 2, 5, 9), list(0, 3, 3, 1)}
	eachPair(lists, func(all []impl.Customer, order []int, a, b int) {
		ends, greatest := impl.EndsOf(all, order), 0
		for from := max(all[a].Come, all[b].Come); from <= min(ends[a], ends[b]); from++ {
			for to := from; to <= min(ends[a], ends[b]); to++ {
				more := impl.UnitsIn(all, order, a, from, to) - impl.UnitsIn(all, order, b, from, to)
				greatest = max(greatest, more, -more)
			}
		}
		if got := impl.AheadBy(all, order, a, b); got != greatest {
			t.Fatalf("AheadBy(%v, %v, %d, %d) is %d, and by units %d", all, order, a, b, got, greatest)
		}
	})
}

func TestPromise53AheadByOfOthers(t *testing.T) {
	refused := func(all []impl.Customer, order []int, a, b int) {
		t.Helper()
		if got := impl.AheadBy(all, order, a, b); got != -1 {
			t.Fatalf("AheadBy(%v, %v, %d, %d) is %d, not -1", all, order, a, b, got)
		}
	}
	otherOrders(func(all []impl.Customer, order []int) {
		for _, a := range []int{-1, 0, len(all) - 1} {
			for _, b := range []int{0, len(all) - 1, len(all)} {
				refused(all, order, a, b)
			}
		}
	})
	for _, all := range someLists() {
		for _, order := range turnsOrders(all) {
			for _, past := range pastPlaces(len(all)) {
				for at := range all {
					refused(all, order, past, at)
					refused(all, order, at, past)
				}
				refused(all, order, past, past)
			}
		}
	}
}

// Promise 54: rounds end short needs sooner.
func TestPromise54RoundEnds(t *testing.T) {
	for _, c := range roundCases() {
		if got := impl.RoundEnds(c.all); !slices.Equal(got, c.ends) {
			t.Errorf("RoundEnds(%v) is %v, not %v", c.all, got, c.ends)
		}
	}
	for _, all := range roundLists() {
		checkRoundEnds(t, all)
	}
	for _, all := range append(listsAt0(), fewLists()...) {
		if maxCome(all) == 0 {
			checkEndsAt0(t, all)
		}
	}
	for _, all := range noRounds() {
		if got := impl.RoundEnds(all); len(got) != 0 {
			t.Fatalf("RoundEnds(%v) is %v, not nil", all, got)
		}
	}
}

func checkRoundEnds(t *testing.T, all []impl.Customer) {
	t.Helper()
	ends := impl.RoundEnds(all)
	if want := endsByWords(all, turnsByWords(all)); !slices.Equal(ends, want) {
		t.Fatalf("RoundEnds(%v) is %v, not %v", all, ends, want)
	}
	if byOrder := impl.EndsOf(all, impl.RoundOrder(all)); !slices.Equal(ends, byOrder) {
		t.Fatalf("RoundEnds(%v) is %v, and EndsOf the order %v", all, ends, byOrder)
	}
	last := impl.LastLeave(all)
	for at, c := range all {
		if ends[at] < c.Come+c.Need || ends[at] > last {
			t.Fatalf("RoundEnds(%v) is %v, LastLeave %d", all, ends, last)
		}
	}
}

func checkEndsAt0(t *testing.T, all []impl.Customer) {
	t.Helper()
	ends := impl.RoundEnds(all)
	if want := endsAt0(all); !slices.Equal(ends, want) {
		t.Fatalf("RoundEnds(%v) is %v, not %v", all, ends, want)
	}
	for behind, c := range all {
		for ahead, a := range all[:behind] {
			if first := a.Need <= c.Need; first != (ends[ahead] < ends[behind]) {
				t.Fatalf("RoundEnds(%v) is %v: %d and %d end the other way round", all, ends, ahead, behind)
			}
		}
	}
}

// A general rule: arguments are never written to, whether they are customers and orders or not.
func TestRoundsArgumentsAreNotWrittenTo(t *testing.T) {
	for _, all := range append(roundLists(), noRounds()...) {
		untouched(t, all, func(part []impl.Customer) {
			scribbled(impl.RoundOrder(part), -7)
			scribbled(impl.RoundEnds(part), -7)
		})
	}
	allUntouched(t, func(part []impl.Customer, units []int) {
		for at := -1; at <= len(part); at++ {
			impl.UnitsIn(part, units, at, 0, 200)
			impl.UnitsIn(part, units, at, 2, 7)
			impl.UnitsIn(part, units, at, 7, 2)
			impl.AheadBy(part, units, at, 0)
			impl.AheadBy(part, units, len(part)-1, at)
		}
	})
}

// A general rule: results share no memory with each other, nor with an argument that is written to later.
func TestRoundsResultsAreNew(t *testing.T) {
	all := list(0, 3, 1, 1, 6, 1)
	order, ends := impl.RoundOrder(all), impl.RoundEnds(all)
	asBefore := func(when string, order, ends []int) {
		t.Helper()
		if !slices.Equal(order, []int{0, 0, 1, 0, -1, -1, 2}) || !slices.Equal(ends, []int{4, 3, 7}) {
			t.Errorf("%s: %v, %v", when, order, ends)
		}
	}
	asBefore("at once", order, ends)
	scribbled(impl.RoundOrder(all), -7)
	scribbled(impl.RoundEnds(all), -7)
	asBefore("with other results written to", order, ends)
	asBefore("asked again", impl.RoundOrder(all), impl.RoundEnds(all))
	scribbled(all, impl.Customer{Come: -7, Need: -7})
	asBefore("with the argument written to", order, ends)
}

// A general rule: no call leaves anything for the next one.
func TestRoundsSameAgain(t *testing.T) {
	sameAgain(t, func(all []impl.Customer) []int {
		order := impl.RoundOrder(all)
		numbers := append(slices.Clone(order), impl.RoundEnds(all)...)
		for at := -1; at <= len(all); at++ {
			numbers = append(numbers, impl.UnitsIn(all, order, at, 0, 200), impl.UnitsIn(all, order, at, 1, 9), impl.AheadBy(all, order, at, 0), impl.AheadBy(all, order, 0, at))
		}
		return numbers
	})
}
