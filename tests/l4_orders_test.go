package tests

import (
	"math"
	"slices"
	"testing"

	"loop.example/onecounter/impl"
)

// otherRules are none of the rules.
var otherRules = []int{math.MinInt, -2, -1, 4, 5, math.MaxInt}

// Promise 16: as they come is an order.
func TestPromise16OrderOk(t *testing.T) {
	three, alike := list(0, 3, 1, 1, 6, 1), list(2, 2, 2, 2)
	cases := []struct {
		all   []impl.Customer
		order []int
		ok    bool
	}{
		{nil, nil, true}, {[]impl.Customer{}, []int{}, true}, {nil, []int{-1}, true}, {nil, behind(nil, 200), true}, {nil, behind(nil, 201), false}, {nil, []int{0}, false}, {nil, []int{-2}, false},
		{list(0, 1), []int{0}, true}, {list(0, 1), nil, false}, {list(0, 1), []int{-1}, false}, {list(0, 1), []int{0, 0}, false}, {list(0, 1), []int{1}, false}, {list(0, 1), []int{0, 1}, false}, {list(0, 1), []int{0, -2}, false}, {list(0, 1), []int{-1, -1, 0}, true},
		{list(0, 1), behind([]int{0}, 199), true}, {list(0, 1), behind([]int{0}, 200), false}, {list(60, 9), append(behind(nil, 60), slices.Repeat([]int{0}, 9)...), true}, {list(60, 9), append(behind(nil, 59), slices.Repeat([]int{0}, 9)...), false},
		{list(60, 9), append(behind(nil, 191), slices.Repeat([]int{0}, 9)...), true}, {list(60, 9), append(behind(nil, 192), slices.Repeat([]int{0}, 9)...), false},
		{three, []int{0, 1, 0, 0, -1, -1, 2}, true}, {three, []int{0, 0, 0, 1, -1, -1, 2}, true}, {three, []int{0, 1, 0, 0, -1, -1, 2, -1}, true}, {three, []int{-1, -1, 1, 0, -1, 0, 2, 0}, true},
		{three, []int{1, 0, 0, 0, -1, -1, 2}, false}, {three, []int{0, 1, 0, 0, -1, 2}, false}, {three, []int{0, 1, 0, 0, 2, -1, -1}, false}, {three, []int{0, 1, 0, 0}, false}, {three, []int{0, 1, 0, -1, -1, -1, 2}, false},
		{three, []int{0, 1, 0, 0, 0, -1, 2}, false}, {three, []int{0, 1, 0, 1, -1, -1, 2}, false}, {three, []int{0, 1, 0, 0, -2, -1, 2}, false}, {three, []int{0, 1, 0, 0, 3, -1, 2}, false}, {three, []int{0, 1, 0, 0, math.MaxInt, math.MinInt, 2}, false},
		{alike, []int{-1, -1, 0, 1, 1, 0}, true}, {alike, []int{-1, -1, 1, 1, 0, 0}, true}, {alike, []int{-1, 0, 0, 1, 1}, false}, {alike, []int{-1, -1, 0, 0, 0, 1}, false}, {alike, []int{-1, 1, 0, 0, 1}, false},
	}
	for _, c := range cases {
		if got := impl.OrderOk(c.all, c.order); got != c.ok {
			t.Errorf("OrderOk(%v, %v) is %v, not %v", c.all, c.order, got, c.ok)
		}
	}
	for _, all := range goodLists() {
		checkRulesTellOrders(t, all)
	}
	for _, all := range someLists() {
		for _, order := range goodOrders(all) {
			checkOrderOk(t, all, order)
		}
	}
}

func checkRulesTellOrders(t *testing.T, all []impl.Customer) {
	t.Helper()
	for rule := range impl.Rules {
		order := impl.OrderBy(all, rule)
		for units := range 201 - len(order) {
			if longer := behind(order, units); !impl.OrderOk(all, longer) {
				t.Fatalf("OrderOk(%v, %v) is false, by the rule %d and %d units behind", all, longer, rule, units)
			}
		}
	}
}

func checkOrderOk(t *testing.T, all []impl.Customer, order []int) {
	t.Helper()
	for _, units := range append(changedOrders(all, order), order) {
		if got, want := impl.OrderOk(all, units), orderOkByWords(all, units); got != want {
			t.Fatalf("OrderOk(%v, %v) is %v", all, units, got)
		}
	}
}

func TestPromise16OrderOkOfOthers(t *testing.T) {
	otherOrders(func(all []impl.Customer, order []int) {
		if impl.OrderOk(all, order) {
			t.Fatalf("OrderOk(%v, %v) is true", all, order)
		}
	})
}

// Promise 17: orders that do not idle end at the same time.
func TestPromise17BusyOk(t *testing.T) {
	three, late := list(0, 3, 1, 1, 6, 1), list(2, 2, 2, 2)
	cases := []struct {
		all   []impl.Customer
		order []int
		ok    bool
	}{
		{nil, nil, true}, {[]impl.Customer{}, []int{}, true}, {nil, []int{-1}, false}, {nil, behind(nil, 200), false}, {nil, []int{0}, false},
		{list(0, 1), []int{0}, true}, {list(0, 1), []int{0, -1}, false}, {list(0, 1), []int{-1, 0}, false}, {list(0, 1), nil, false}, {list(0, 2), []int{0, -1, 0}, false}, {list(1, 1), []int{-1, 0}, true}, {list(1, 1), []int{0}, false},
		{three, []int{0, 1, 0, 0, -1, -1, 2}, true}, {three, []int{0, 0, 1, 0, -1, -1, 2}, true}, {three, []int{0, 0, 0, 1, -1, -1, 2}, true}, {three, []int{0, 0, 0, 1, -1, -1, 2, -1}, false}, {three, []int{0, 0, 0, 1, -1, -1, -1, 2}, false},
		{three, []int{-1, 0, 1, 0, 0, -1, 2}, false}, {three, []int{0, 0, 0, -1, 1, -1, 2}, false}, {three, []int{0, 0, 0, 1, -1, 2}, false}, {three, []int{0, 0, 0, 0, -1, -1, 2}, false}, {three, []int{1, 0, 0, 0, -1, -1, 2}, false}, {three, nil, false},
		{late, []int{-1, -1, 0, 1, 0, 1}, true}, {late, []int{-1, -1, 1, 1, 0, 0}, true}, {late, []int{-1, -1, -1, 0, 0, 1, 1}, false}, {late, []int{-1, 0, 0, 1, 1}, false}, {late, []int{-1, -1, 0, 0, 1, 1, -1}, false},
	}
	for _, c := range cases {
		if got := impl.BusyOk(c.all, c.order); got != c.ok {
			t.Errorf("BusyOk(%v, %v) is %v, not %v", c.all, c.order, got, c.ok)
		}
	}
	for _, all := range goodLists() {
		for rule := range impl.Rules {
			if order := impl.OrderBy(all, rule); !impl.BusyOk(all, order) || len(order) != impl.LastLeave(all) {
				t.Fatalf("BusyOk(%v, %v) is %v, LastLeave %d", all, order, impl.BusyOk(all, order), impl.LastLeave(all))
			}
		}
	}
	for _, all := range someLists() {
		for _, order := range goodOrders(all) {
			checkBusyOk(t, all, order)
		}
	}
}

func checkBusyOk(t *testing.T, all []impl.Customer, order []int) {
	t.Helper()
	for _, units := range append(changedOrders(all, order), order) {
		got := impl.BusyOk(all, units)
		if got != busyByWords(all, units) {
			t.Fatalf("BusyOk(%v, %v) is %v", all, units, got)
		}
		if got && len(units) != impl.LastLeave(all) {
			t.Fatalf("BusyOk(%v, %v) is true, LastLeave %d", all, units, impl.LastLeave(all))
		}
		if impl.OrderOk(all, units) && len(units) < impl.LastLeave(all) {
			t.Fatalf("OrderOk(%v, %v) is true, LastLeave %d", all, units, impl.LastLeave(all))
		}
	}
}

func TestPromise17BusyOkOfOthers(t *testing.T) {
	otherOrders(func(all []impl.Customer, order []int) {
		if impl.BusyOk(all, order) {
			t.Fatalf("BusyOk(%v, %v) is true", all, order)
		}
	})
}

// Promise 18: rules serve in the same units.
func TestPromise18OrderBy(t *testing.T) {
	three, alike, equal := list(0, 3, 1, 1, 6, 1), list(0, 2, 0, 2, 0, 2), list(0, 3, 1, 2)
	cases := []struct {
		all    []impl.Customer
		orders [4][]int
	}{
		{nil, [4][]int{}}, {[]impl.Customer{}, [4][]int{}}, {list(0, 1), [4][]int{{0}, {0}, {0}, {0}}}, {list(2, 2), [4][]int{{-1, -1, 0, 0}, {-1, -1, 0, 0}, {-1, -1, 0, 0}, {-1, -1, 0, 0}}},
		{three, [4][]int{{0, 0, 0, 1, -1, -1, 2}, {0, 1, 0, 0, -1, -1, 2}, {0, 1, 0, 0, -1, -1, 2}, {0, 0, 0, 1, -1, -1, 2}}},
		{alike, [4][]int{{0, 0, 1, 1, 2, 2}, {2, 2, 1, 1, 0, 0}, {0, 0, 1, 1, 2, 2}, {0, 1, 2, 0, 1, 2}}},
		{equal, [4][]int{{0, 0, 0, 1, 1}, {0, 1, 1, 0, 0}, {0, 0, 0, 1, 1}, {0, 0, 1, 0, 1}}},
		{list(1, 4, 2, 1, 3, 2), [4][]int{{-1, 0, 0, 0, 0, 1, 2, 2}, {-1, 0, 1, 2, 2, 0, 0, 0}, {-1, 0, 1, 2, 2, 0, 0, 0}, {-1, 0, 0, 0, 2, 0, 1, 2}}},
		{list(0, 2, 2, 1), [4][]int{{0, 0, 1}, {0, 0, 1}, {0, 0, 1}, {0, 0, 1}}}, {list(0, 2, 3, 1), [4][]int{{0, 0, -1, 1}, {0, 0, -1, 1}, {0, 0, -1, 1}, {0, 0, -1, 1}}},
	}
	for _, c := range cases {
		for rule, order := range c.orders {
			if got := impl.OrderBy(c.all, rule); !slices.Equal(got, order) {
				t.Errorf("OrderBy(%v, %d) is %v, not %v", c.all, rule, got, order)
			}
		}
	}
	if impl.Rules != 4 {
		t.Errorf("there are %d rules", impl.Rules)
	}
	for _, all := range goodLists() {
		checkOrderBy(t, all)
	}
}

func checkOrderBy(t *testing.T, all []impl.Customer) {
	t.Helper()
	first := impl.OrderBy(all, 0)
	for rule := range 4 {
		order := impl.OrderBy(all, rule)
		if want := orderByWords(all, rule); !slices.Equal(order, want) {
			t.Fatalf("OrderBy(%v, %d) is %v, not %v", all, rule, order, want)
		}
		if !slices.EqualFunc(order, first, func(a, b int) bool { return (a == -1) == (b == -1) }) {
			t.Fatalf("OrderBy(%v, %d) is %v, by the rule 0 %v", all, rule, order, first)
		}
	}
	if ends, leaves := impl.EndsOf(all, first), impl.LeavesOf(all); !slices.Equal(ends, leaves) || !slices.Equal(ends, servedAsTheyCome(all).leaves) {
		t.Fatalf("as they come the ends in %v are %v, and LeavesOf %v", all, ends, leaves)
	}
}

func TestPromise18OrderByOfOthers(t *testing.T) {
	for _, all := range goodLists() {
		for _, rule := range otherRules {
			if got := impl.OrderBy(all, rule); len(got) != 0 {
				t.Fatalf("OrderBy(%v, %d) is %v, not nil", all, rule, got)
			}
		}
	}
	for _, all := range append(othersOfEachKind(), badLists()...) {
		for _, rule := range append([]int{0, 1, 2, 3}, otherRules...) {
			if got := impl.OrderBy(all, rule); len(got) != 0 {
				t.Fatalf("OrderBy(%v, %d) is %v, not nil", all, rule, got)
			}
		}
	}
}

// Promise 19: nobody ends before the need is met.
func TestPromise19EndsOf(t *testing.T) {
	three, alike := list(0, 3, 1, 1, 6, 1), list(0, 2, 0, 2, 0, 2)
	cases := []struct {
		all         []impl.Customer
		order, ends []int
	}{
		{nil, nil, nil}, {[]impl.Customer{}, []int{-1, -1}, nil}, {list(0, 1), []int{0}, []int{1}}, {list(0, 1), []int{0, -1, -1}, []int{1}}, {list(0, 1), []int{-1, -1, 0}, []int{3}}, {list(0, 2), []int{0, -1, 0}, []int{3}},
		{list(60, 9), append(behind(nil, 191), slices.Repeat([]int{0}, 9)...), []int{200}}, {list(60, 9), append(behind(nil, 60), slices.Repeat([]int{0}, 9)...), []int{69}},
		{three, []int{0, 0, 0, 1, -1, -1, 2}, []int{3, 4, 7}}, {three, []int{0, 1, 0, 0, -1, -1, 2}, []int{4, 2, 7}}, {three, []int{0, -1, 0, -1, 1, -1, 2, 0, -1}, []int{8, 5, 7}},
		{alike, []int{0, 1, 2, 0, 1, 2}, []int{4, 5, 6}}, {alike, []int{2, 2, 1, 1, 0, 0}, []int{6, 4, 2}}, {alike, []int{-1, 2, 1, -1, 1, 0, 0, 2}, []int{7, 5, 8}},
		{three, []int{1, 0, 0, 0, -1, -1, 2}, nil}, {three, []int{0, 0, 0, 1}, nil}, {three, nil, nil}, {list(0, 1), []int{1}, nil}, {list(0, 1), behind([]int{0}, 200), nil},
	}
	for _, c := range cases {
		if got := impl.EndsOf(c.all, c.order); !slices.Equal(got, c.ends) {
			t.Errorf("EndsOf(%v, %v) is %v, not %v", c.all, c.order, got, c.ends)
		}
	}
	for _, all := range goodLists() {
		for _, order := range goodOrders(all) {
			checkEnds(t, all, order)
		}
	}
}

func checkEnds(t *testing.T, all []impl.Customer, order []int) {
	t.Helper()
	ends := impl.EndsOf(all, order)
	if len(ends) != len(all) {
		t.Fatalf("EndsOf(%v, %v) is %v", all, order, ends)
	}
	greatest := 0
	for at, end := range ends {
		if end < all[at].Come+all[at].Need {
			t.Fatalf("EndsOf(%v, %v) is %v: %d ends too soon", all, order, ends, at)
		}
		if order[end-1] != at || slices.Contains(order[end:], at) {
			t.Fatalf("EndsOf(%v, %v) is %v: %d ends at another time", all, order, ends, at)
		}
		if slices.Contains(ends[:at], end) {
			t.Fatalf("EndsOf(%v, %v) is %v: two end at the same time", all, order, ends)
		}
		greatest = max(greatest, end)
	}
	if greatest < impl.LastLeave(all) {
		t.Fatalf("EndsOf(%v, %v) is %v, LastLeave %d", all, order, ends, impl.LastLeave(all))
	}
}

func TestPromise19EndsOfOthers(t *testing.T) {
	otherOrders(func(all []impl.Customer, order []int) {
		if got := impl.EndsOf(all, order); len(got) != 0 {
			t.Fatalf("EndsOf(%v, %v) is %v, not nil", all, order, got)
		}
	})
}

// Promise 20: as they come nobody is left.
func TestPromise20ChangesOf(t *testing.T) {
	three, alike := list(0, 3, 1, 1, 6, 1), list(0, 2, 0, 2, 0, 2)
	cases := []struct {
		all     []impl.Customer
		order   []int
		changes int
	}{
		{nil, nil, 0}, {[]impl.Customer{}, []int{-1, -1}, 0}, {nil, behind(nil, 201), -1}, {list(0, 1), []int{0}, 0}, {list(0, 1), []int{-1, 0, -1}, 0}, {list(0, 2), []int{0, 0}, 0}, {list(0, 2), []int{0, -1, 0}, 1}, {list(0, 2), []int{-1, 0, -1, -1, 0, -1}, 1}, {list(0, 3), []int{0, -1, 0, -1, 0}, 2},
		{three, []int{0, 0, 0, 1, -1, -1, 2}, 0}, {three, []int{0, 1, 0, 0, -1, -1, 2}, 1}, {three, []int{0, 1, -1, 0, 0, -1, 2}, 1}, {three, []int{0, -1, 0, 1, 0, -1, 2}, 2}, {three, []int{-1, 0, -1, 0, -1, 0, 1, 2}, 2}, {three, []int{-1, -1, 1, 0, -1, -1, 2, 0, 0}, 1},
		{alike, []int{0, 1, 2, 0, 1, 2}, 3}, {alike, []int{2, 2, 1, 1, 0, 0}, 0}, {alike, []int{0, 1, 0, 2, 1, 2}, 3}, {alike, []int{0, 1, 1, 0, 2, 2}, 1}, {alike, []int{0, 1, 2, 2, 1, 0}, 2},
		{three, []int{1, 0, 0, 0, -1, -1, 2}, -1}, {three, []int{0, 0, 0, 1}, -1}, {three, nil, -1}, {list(0, 1), []int{1}, -1}, {list(0, 1), behind([]int{0}, 200), -1}, {list(0, 1), behind([]int{0}, 199), 0},
	}
	for _, c := range cases {
		if got := impl.ChangesOf(c.all, c.order); got != c.changes {
			t.Errorf("ChangesOf(%v, %v) is %d, not %d", c.all, c.order, got, c.changes)
		}
	}
	for _, all := range goodLists() {
		checkChangesByRules(t, all)
		for _, order := range goodOrders(all) {
			checkChanges(t, all, order)
		}
	}
}

func checkChangesByRules(t *testing.T, all []impl.Customer) {
	t.Helper()
	for rule, most := range []int{0, max(0, len(all)-1), max(0, len(all)-1)} {
		if got := impl.ChangesOf(all, impl.OrderBy(all, rule)); got < 0 || got > most {
			t.Fatalf("in %v there are %d changes by the rule %d", all, got, rule)
		}
	}
}

func checkChanges(t *testing.T, all []impl.Customer, order []int) {
	t.Helper()
	changes := 0
	for time := 1; time < len(order); time++ {
		before := order[time-1]
		// Who is served again later has units left.
		if before != -1 && before != order[time] && slices.Contains(order[time:], before) {
			changes++
		}
	}
	if got := impl.ChangesOf(all, order); got != changes {
		t.Fatalf("ChangesOf(%v, %v) is %d, not %d", all, order, got, changes)
	}
}

func TestPromise20ChangesOfOthers(t *testing.T) {
	otherOrders(func(all []impl.Customer, order []int) {
		if got := impl.ChangesOf(all, order); got != -1 {
			t.Fatalf("ChangesOf(%v, %v) is %d, not -1", all, order, got)
		}
	})
}

// A general rule: arguments are never written to, whether they are customers and orders or not.
func TestOrdersArgumentsAreNotWrittenTo(t *testing.T) {
	allUntouched(t, func(part []impl.Customer, units []int) {
		impl.OrderOk(part, units)
		impl.BusyOk(part, units)
		impl.ChangesOf(part, units)
		scribbled(impl.EndsOf(part, units), -7)
		for _, rule := range []int{-1, 0, 1, 2, 3, 4} {
			scribbled(impl.OrderBy(part, rule), -7)
		}
	})
}

// A general rule: results share no memory with each other, nor with an argument that is written to later.
func TestOrdersResultsAreNew(t *testing.T) {
	for rule, wanted := range [][]int{{0, 0, 0, 1, -1, -1, 2}, {0, 1, 0, 0, -1, -1, 2}, {0, 1, 0, 0, -1, -1, 2}, {0, 0, 0, 1, -1, -1, 2}} {
		all := list(0, 3, 1, 1, 6, 1)
		argument := slices.Clone(wanted)
		wantedEnds := impl.LeavesOf(all)
		if wanted[1] == 1 {
			wantedEnds = []int{4, 2, 7}
		}
		order, ends := impl.OrderBy(all, rule), impl.EndsOf(all, argument)
		scribbled(impl.OrderBy(all, rule), -7)
		scribbled(impl.EndsOf(all, argument), -7)
		if again := impl.OrderBy(all, rule); !slices.Equal(again, wanted) || !slices.Equal(impl.EndsOf(all, argument), wantedEnds) {
			t.Errorf("then they are %v, %v", again, impl.EndsOf(all, argument))
		}
		scribbled(all, impl.Customer{Come: -7, Need: -7})
		scribbled(argument, -7)
		if !slices.Equal(order, wanted) || !slices.Equal(ends, wantedEnds) {
			t.Errorf("they became %v, %v", order, ends)
		}
	}
}

// A general rule: no call leaves anything for the next one.
func TestOrdersSameAgain(t *testing.T) {
	sameAgain(t, func(all []impl.Customer) []int {
		var numbers []int
		for rule := range 5 {
			order := impl.OrderBy(all, rule)
			numbers = append(append(numbers, order...), impl.EndsOf(all, order)...)
			numbers = append(numbers, impl.ChangesOf(all, order))
			for _, ok := range []bool{impl.OrderOk(all, order), impl.BusyOk(all, order)} {
				if ok {
					numbers = append(numbers, -2)
				}
			}
		}
		return numbers
	})
}
