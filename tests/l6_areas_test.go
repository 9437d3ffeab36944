package tests

import (
	"slices"
	"testing"

	"loop.example/onecounter/impl"
)

// areaCase has what AreaOf and WaitingArea are for customers and an order.
type areaCase struct {
	all           []impl.Customer
	order         []int
	area, waiting int
}

func areaCases() []areaCase {
	three, together := list(0, 3, 1, 1, 6, 1), list(2, 2, 2, 2, 2, 1)
	alike, nine := same(8, 0, 9), slices.Repeat([]int{0}, 9)
	return []areaCase{
		{nil, nil, 0, 0}, {[]impl.Customer{}, []int{}, 0, 0}, {nil, []int{-1, -1}, 0, 0}, {nil, behind(nil, 200), 0, 0},
		{list(0, 1), []int{0}, 1, 0}, {list(0, 1), []int{-1, 0}, 2, 1}, {list(0, 1), []int{0, -1, -1}, 1, 0}, {list(0, 2), []int{0, -1, 0}, 3, 1}, {list(0, 2), []int{-1, 0, -1, -1, 0, -1}, 5, 3}, {list(3, 2), []int{-1, -1, -1, 0, 0}, 2, 0}, {list(0, 9), nine, 9, 0},
		{list(0, 1), behind([]int{0}, 199), 1, 0}, {list(0, 1), append(behind(nil, 199), 0), 200, 199}, {list(60, 9), append(behind(nil, 60), nine...), 9, 0}, {list(60, 9), behind(append(behind(nil, 60), nine...), 131), 9, 0}, {list(60, 9), append(behind(nil, 191), nine...), 140, 131},
		{three, []int{0, 0, 0, 1, -1, -1, 2}, 7, 2}, {three, []int{0, 1, 0, 0, -1, -1, 2}, 6, 1}, {three, []int{0, 1, 0, 0, -1, -1, 2, -1}, 6, 1}, {three, []int{0, -1, 0, -1, 1, -1, 2, 0, -1}, 13, 8}, {three, []int{-1, -1, 1, 0, -1, 0, 0, 2}, 11, 6},
		{together, []int{-1, -1, 0, 0, 1, 1, 2}, 11, 6}, {together, []int{-1, -1, 2, 0, 0, 1, 1}, 9, 4}, {together, []int{-1, -1, 0, 1, 2, 0, 1}, 12, 7}, {together, []int{-1, -1, -1, 0, 0, 1, 1, 2}, 14, 9},
		{alike, orderByWords(alike, 0), 324, 252}, {alike, orderByWords(alike, 1), 324, 252}, {alike, orderByWords(alike, 2), 324, 252}, {alike, orderByWords(alike, 3), 548, 476}, {same(8, 60, 9), orderByWords(same(8, 60, 9), 0), 324, 252},
		{three, []int{1, 0, 0, 0, -1, -1, 2}, -1, -1}, {three, []int{0, 0, 0, 1}, -1, -1}, {three, []int{0, 0, 0, 1, -1, -1, 2, 2}, -1, -1}, {three, nil, -1, -1}, {list(0, 1), []int{1}, -1, -1}, {list(0, 1), []int{0, -2}, -1, -1}, {list(0, 1), behind([]int{0}, 200), -1, -1}, {nil, []int{0}, -1, -1}, {nil, behind(nil, 201), -1, -1},
		{same(9, 0, 1), []int{0, 1, 2, 3, 4, 5, 6, 7, 8}, -1, -1}, {list(-1, 1), []int{0}, -1, -1}, {list(61, 1), append(behind(nil, 61), 0), -1, -1}, {list(0, 0), nil, -1, -1}, {list(0, 10), append(nine, 0), -1, -1}, {list(2, 1, 1, 1), []int{-1, 1, 0}, -1, -1},
	}
}

// areasByWords counts in each unit who is there, and who of these is not served, and knows no ends.
func areasByWords(all []impl.Customer, order []int) (int, int) {
	area, waiting := 0, 0
	for time := range 200 {
		there := thereByWords(all, order, time)
		area += there
		if time < len(order) && order[time] >= 0 {
			there--
		}
		waiting += there
	}
	return area, waiting
}

// areaByThereAt adds what the program tells of each unit.
func areaByThereAt(all []impl.Customer, order []int) int {
	area := 0
	for time := range impl.MaxTime {
		area += impl.ThereAt(all, order, time)
	}
	return area
}

// Promise 26: areas are sums of times.
func TestPromise26AreaOf(t *testing.T) {
	for _, c := range areaCases() {
		if got := impl.AreaOf(c.all, c.order); got != c.area {
			t.Errorf("AreaOf(%v, %v) is %d, not %d", c.all, c.order, got, c.area)
		}
	}
	eachOrder(someLists(), func(all []impl.Customer, order []int) {
		want, _ := areasByWords(all, order)
		if got := impl.AreaOf(all, order); got != want || got != areaByThereAt(all, order) {
			t.Fatalf("AreaOf(%v, %v) is %d, not %d, and by ThereAt %d", all, order, got, want, areaByThereAt(all, order))
		}
	})
	eachOrder(append(goodLists(), fewLists()...), func(all []impl.Customer, order []int) {
		got := impl.AreaOf(all, order)
		if sum := impl.SumOf(all, order); got != sum || got != sumOfNumbers(timesByWords(all, order)) {
			t.Fatalf("AreaOf(%v, %v) is %d, SumOf %d", all, order, got, sum)
		}
	})
}

func TestPromise26AreaOfOthers(t *testing.T) {
	otherOrders(func(all []impl.Customer, order []int) {
		if got := impl.AreaOf(all, order); got != -1 {
			t.Fatalf("AreaOf(%v, %v) is %d, not -1", all, order, got)
		}
	})
}

// Promise 27: who waits is there and not served.
func TestPromise27WaitingArea(t *testing.T) {
	for _, c := range areaCases() {
		if got := impl.WaitingArea(c.all, c.order); got != c.waiting {
			t.Errorf("WaitingArea(%v, %v) is %d, not %d", c.all, c.order, got, c.waiting)
		}
	}
	eachOrder(someLists(), func(all []impl.Customer, order []int) {
		_, want := areasByWords(all, order)
		if got := impl.WaitingArea(all, order); got != want {
			t.Fatalf("WaitingArea(%v, %v) is %d, not %d", all, order, got, want)
		}
	})
	eachOrder(append(goodLists(), fewLists()...), func(all []impl.Customer, order []int) {
		waiting, area, need := impl.WaitingArea(all, order), impl.AreaOf(all, order), impl.NeedOf(all)
		if waiting < 0 || waiting != area-need {
			t.Fatalf("WaitingArea(%v, %v) is %d, AreaOf %d, NeedOf %d", all, order, waiting, area, need)
		}
	})
}

func TestPromise27WaitingAreaAsTheyCome(t *testing.T) {
	for _, all := range append(goodLists(), fewLists()...) {
		got, want := impl.WaitingArea(all, impl.OrderBy(all, 0)), sumOfNumbers(impl.WaitsOf(all))
		if got != want {
			t.Fatalf("in %v WaitingArea is %d as they come, and all waits are %d", all, got, want)
		}
	}
}

func TestPromise27WaitingAreaOfOthers(t *testing.T) {
	otherOrders(func(all []impl.Customer, order []int) {
		if got := impl.WaitingArea(all, order); got != -1 {
			t.Fatalf("WaitingArea(%v, %v) is %d, not -1", all, order, got)
		}
	})
}

// workCase has what both WorkArea and WorkBy are for customers.
type workCase struct {
	all  []impl.Customer
	work int
}

func workCases() []workCase {
	return []workCase{
		{nil, 0}, {[]impl.Customer{}, 0}, {list(0, 1), 1}, {list(0, 2), 3}, {list(0, 9), 45}, {list(60, 1), 1}, {list(60, 9), 45}, {list(3, 4), 10},
		{list(0, 3, 1, 1, 6, 1), 10}, {list(0, 3, 1, 2), 13}, {list(0, 4, 1, 2, 9, 1), 20}, {list(0, 2, 2, 1), 4}, {list(0, 2, 3, 1), 4}, {list(0, 9, 9, 9, 18, 9), 135}, {list(0, 9, 30, 9, 60, 9), 135}, {list(0, 9, 8, 9), 99},
		{list(2, 2, 2, 2, 2, 1), 15}, {list(5, 3, 5, 1), 10}, {list(5, 1, 5, 3), 10}, {same(8, 0, 1), 36}, {same(8, 0, 9), 2628}, {same(8, 60, 9), 2628}, {same(3, 5, 4), 78},
		{same(9, 0, 1), -1}, {list(-1, 3), -1}, {list(61, 3), -1}, {list(0, 0), -1}, {list(0, 10), -1}, {list(2, 3, 1, 3), -1}, {list(0, 3, 61, 1), -1}, {list(0, 3, 1, 0), -1},
	}
}

// workByWords lets the first one there be served in each unit, and adds what all who have come still need at its beginning.
func workByWords(all []impl.Customer) int {
	var left []int
	for _, c := range all {
		left = append(left, c.Need)
	}
	sum := 0
	for time := range 201 {
		first := -1
		for at, c := range all {
			if c.Come > time || left[at] == 0 {
				continue
			}
			if first < 0 {
				first = at
			}
			sum += left[at]
		}
		if first >= 0 {
			left[first]--
		}
	}
	return sum
}

// Promise 28: work is added by those who have it.
func TestPromise28WorkArea(t *testing.T) {
	for _, c := range workCases() {
		if got := impl.WorkArea(c.all); got != c.work {
			t.Errorf("WorkArea(%v) is %d, not %d", c.all, got, c.work)
		}
	}
	for _, all := range append(goodLists(), fewLists()...) {
		checkWorkArea(t, all)
	}
}

func checkWorkArea(t *testing.T, all []impl.Customer) {
	t.Helper()
	area, byTimes, least := impl.WorkArea(all), 0, 0
	for time := range impl.MaxTime + 1 {
		byTimes += impl.WorkAt(all, time)
	}
	for _, c := range all {
		least += c.Need * (c.Need + 1) / 2
	}
	if area != workByWords(all) || area != byTimes {
		t.Fatalf("WorkArea(%v) is %d, not %d, and by WorkAt %d", all, area, workByWords(all), byTimes)
	}
	if area != impl.WorkBy(all) || area < least {
		t.Fatalf("WorkArea(%v) is %d, WorkBy %d, and the services alone %d", all, area, impl.WorkBy(all), least)
	}
	for by := range 61 {
		later, ok := impl.LaterBy(all, by)
		if ok && impl.WorkArea(later) != area {
			t.Fatalf("WorkArea(%v) is %d, and %d if all come %d later", all, area, impl.WorkArea(later), by)
		}
	}
}

// Promise 29: more need is more work.
func TestPromise29WorkBy(t *testing.T) {
	for _, c := range workCases() {
		if got := impl.WorkBy(c.all); got != c.work {
			t.Errorf("WorkBy(%v) is %d, not %d", c.all, got, c.work)
		}
	}
	grown := 0
	for _, all := range append(goodLists(), fewLists()...) {
		if checkWorkBy(t, all) {
			grown++
		}
	}
	if grown < 100 {
		t.Errorf("only in %d lists the last one may need more", grown)
	}
}

// checkWorkBy reports whether the last one may need more.
func checkWorkBy(t *testing.T, all []impl.Customer) bool {
	t.Helper()
	by, want, waits := impl.WorkBy(all), 0, impl.WaitsOf(all)
	for at, c := range all {
		want += c.Need * waits[at]
		for left := 1; left <= c.Need; left++ {
			want += left
		}
	}
	if by != want {
		t.Fatalf("WorkBy(%v) is %d, not %d", all, by, want)
	}
	last := len(all) - 1
	more, ok := impl.NeedingMore(all, last)
	if !ok {
		return false
	}
	if got := impl.WorkBy(more); got != by+waits[last]+all[last].Need+1 {
		t.Fatalf("WorkBy(%v) is %d, and %d if the last one needs one unit more; the wait is %d", all, by, got, waits[last])
	}
	return true
}

// Promises 28 and 29, for those who are no customers.
func TestPromises28And29WorkOfOthers(t *testing.T) {
	for _, all := range append(othersOfEachKind(), badLists()...) {
		if area, by := impl.WorkArea(all), impl.WorkBy(all); area != -1 || by != -1 {
			t.Fatalf("WorkArea(%v) is %d, WorkBy %d, not -1", all, area, by)
		}
	}
}

// A general rule: arguments are never written to, whether they are customers and orders or not.
func TestAreasArgumentsAreNotWrittenTo(t *testing.T) {
	allUntouched(t, func(part []impl.Customer, units []int) {
		impl.AreaOf(part, units)
		impl.WaitingArea(part, units)
		impl.WorkArea(part)
		impl.WorkBy(part)
	})
}

// A general rule: no call leaves anything for the next one.
func TestAreasSameAgain(t *testing.T) {
	sameAgain(t, func(all []impl.Customer) []int {
		numbers := []int{impl.WorkArea(all), impl.WorkBy(all)}
		for rule := range 5 {
			order := impl.OrderBy(all, rule)
			numbers = append(numbers, impl.AreaOf(all, order), impl.WaitingArea(all, order))
		}
		return numbers
	})
}
