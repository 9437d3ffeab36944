package tests

import (
	"math"
	"slices"
	"testing"

	"loop.example/onecounter/impl"
)

// orderByWords tells the order of a rule by the words of the document: it looks at all customers in each unit, and knows no rule as a function.
func orderByWords(all []impl.Customer, rule int) []int {
	var order []int
	left, sum := []int{}, 0
	for _, c := range all {
		left = append(left, c.Need)
		sum += c.Need
	}
	for time := 0; sum > 0; time++ {
		who := -1
		for at, c := range all {
			if c.Come > time || left[at] == 0 {
				continue
			}
			if who == -1 || rule == 1 || rule == 2 && left[at] < left[who] || rule == 3 && left[at] > left[who] {
				who = at
			}
		}
		if who >= 0 {
			left[who]--
			sum--
		}
		order = append(order, who)
	}
	return order
}

// orderOkByWords counts for each customer the units in an order.
func orderOkByWords(all []impl.Customer, order []int) bool {
	if !goodByRule(all) || len(order) > 200 {
		return false
	}
	served := 0
	for at, c := range all {
		units := 0
		for time, who := range order {
			if who != at {
				continue
			}
			if time < c.Come {
				return false
			}
			units++
		}
		if units != c.Need {
			return false
		}
		served += units
	}
	// Who is not one of the customers is nobody, told by -1 alone.
	for _, who := range order {
		if who == -1 {
			served++
		}
	}
	return served == len(order)
}

// busyByWords knows the units in which there is work from those who are served as they come.
func busyByWords(all []impl.Customer, order []int) bool {
	if !orderOkByWords(all, order) {
		return false
	}
	busy, units := busyUnits(all), 0
	for time, there := range busy {
		if there {
			units = time + 1
		}
	}
	for time, who := range order {
		if (who >= 0) != busy[time] {
			return false
		}
	}
	return len(order) == units
}

// chanceOrder has any of those who may be served in each unit, told by a fixed rule, and nobody as often as one in idle, or never for 0.
func chanceOrder(all []impl.Customer, seed uint32, idle int) []int {
	next := numbersFrom(seed)
	var order, left []int
	for at, c := range all {
		for range c.Need {
			left = append(left, at)
		}
	}
	for time := 0; len(left) > 0; time++ {
		come := 0
		for come < len(left) && all[left[come]].Come <= time {
			come++
		}
		if come == 0 || idle > 0 && next(idle) == 0 {
			order = append(order, -1)
			continue
		}
		i := next(come)
		order = append(order, left[i])
		left = slices.Delete(left, i, i+1)
	}
	return order
}

// behind has an order with units behind it in which nobody is served.
func behind(order []int, units int) []int {
	return append(slices.Clone(order), slices.Repeat([]int{-1}, units)...)
}

// goodOrders has for customers the orders of all rules, some of any who are there, some that idle, and some with units behind the last service.
func goodOrders(all []impl.Customer) [][]int {
	var orders [][]int
	for rule := range 4 {
		orders = append(orders, orderByWords(all, rule))
	}
	for seed := range 4 {
		orders = append(orders, chanceOrder(all, uint32(seed), 0), chanceOrder(all, uint32(seed), 3))
	}
	for i, order := range slices.Clone(orders) {
		orders = append(orders, behind(order, 1+i))
	}
	last := orders[0]
	return append(orders, behind(last, 200-len(last)))
}

// changedOrders has an order with each change of one unit, or of two neighbours, of which most are none, and some are.
func changedOrders(all []impl.Customer, order []int) [][]int {
	var orders [][]int
	add := func(change func(units []int) []int) {
		orders = append(orders, change(slices.Clone(order)))
	}
	for i := range order {
		add(func(units []int) []int { return units[:i] })
		add(func(units []int) []int { return slices.Delete(units, i, i+1) })
		add(func(units []int) []int { return slices.Insert(units, i, -1) })
		add(func(units []int) []int { return slices.Insert(units, i, units[i]) })
		for _, who := range []int{-2, -1, 0, len(all) - 1, len(all), math.MinInt, math.MaxInt} {
			add(func(units []int) []int {
				units[i] = who
				return units
			})
		}
		if i > 0 {
			add(func(units []int) []int {
				units[i-1], units[i] = units[i], units[i-1]
				return units
			})
		}
	}
	for _, who := range []int{-2, 0, len(all) - 1, len(all)} {
		add(func(units []int) []int { return append(units, who) })
	}
	return append(orders, behind(order, 201-len(order)), behind(order, 202))
}

// badOrders has orders that are none of the customers.
func badOrders(all []impl.Customer) [][]int {
	orders := [][]int{slices.Repeat([]int{-1}, 201), {-2}, {len(all)}, {math.MinInt}, {math.MaxInt}}
	if len(all) > 0 {
		orders = append(orders, nil, []int{-1}, slices.Repeat([]int{-1}, 200), slices.Repeat([]int{0}, 10))
	}
	for _, order := range [][]int{orderByWords(all, 0), orderByWords(all, 2), chanceOrder(all, 7, 3)} {
		changed := changedOrders(all, order)
		orders = append(orders, slices.DeleteFunc(changed, func(units []int) bool { return orderOkByWords(all, units) })...)
	}
	return orders
}

// someLists has fewer lists than goodLists, of each number of customers: for checks that look at many orders of each.
func someLists() [][]impl.Customer {
	lists := [][]impl.Customer{{}, list(0, 1), list(60, 9), list(0, 3, 1, 1, 6, 1), same(8, 0, 9), same(8, 60, 9), same(3, 5, 4), list(0, 4, 0, 4, 1, 3, 2, 2), list(0, 9, 8, 1, 60, 1)}
	for i, all := range longLists() {
		if i%7 == 0 {
			lists = append(lists, all)
		}
	}
	return lists
}

// otherOrders calls for customers with orders that are none of theirs, and for others with any order.
func otherOrders(call func(all []impl.Customer, order []int)) {
	for _, all := range someLists() {
		for _, order := range badOrders(all) {
			call(all, order)
		}
	}
	for _, all := range append(othersOfEachKind(), badLists()...) {
		for _, order := range ordersForOthers(all) {
			call(all, order)
		}
	}
}

// ordersForOthers has orders that would do if these were customers, and the ones of each rule as far as there are such.
func ordersForOthers(all []impl.Customer) [][]int {
	orders := [][]int{nil, {}, {-1}, {0}, {0, 0, 0}, {-1, -1, 0, 0, 0, 1, 1, 1}}
	var row, late []int
	for at, c := range all {
		for range min(max(0, c.Need), 12) {
			row = append(row, at)
		}
	}
	if latest := maxCome(all); latest <= 61 {
		late = append(slices.Repeat([]int{-1}, max(0, latest)), row...)
	}
	return append(orders, row, late)
}

func maxCome(all []impl.Customer) int {
	latest := 0
	for _, c := range all {
		latest = max(latest, c.Come)
	}
	return latest
}

// orderUntouched calls with a part of a longer list and a part of a longer order, and reports it if any of either is written to.
func orderUntouched(t *testing.T, all []impl.Customer, order []int, call func(part []impl.Customer, units []int)) {
	t.Helper()
	rowUntouched(t, order, []int{0, -1, 1}, func(units []int) {
		untouched(t, all, func(part []impl.Customer) { call(part, units) })
	})
}

// allUntouched calls with customers and orders, and with others and with orders that are none, and reports it if any of them is written to.
func allUntouched(t *testing.T, call func(part []impl.Customer, units []int)) {
	t.Helper()
	for _, all := range someLists() {
		for _, order := range append(goodOrders(all), badOrders(all)[:9]...) {
			orderUntouched(t, all, order, call)
		}
	}
	for _, all := range badLists() {
		for _, order := range ordersForOthers(all) {
			orderUntouched(t, all, order, call)
		}
	}
}

func TestOrdersAreWhatTheyShouldBe(t *testing.T) {
	for _, all := range someLists() {
		for _, order := range goodOrders(all) {
			if !orderOkByWords(all, order) {
				t.Fatalf("not an order of %v: %v", all, order)
			}
		}
		for _, order := range badOrders(all) {
			if orderOkByWords(all, order) {
				t.Fatalf("an order of %v: %v", all, order)
			}
		}
	}
}
