package tests

import (
	"math"
	"slices"
	"testing"

	"loop.example/onecounter/impl"
)

// served is what a counter does that looks at each unit of time who is the first one there.
type served struct {
	begins, leaves []int
	idle           int
}

// servedAsTheyCome goes through the time unit by unit, and so tells waits in another way than the program.
func servedAsTheyCome(all []impl.Customer) served {
	var s served
	at, left := 0, 0
	for time := 0; at < len(all); time++ {
		if all[at].Come > time {
			s.idle++
			continue
		}
		if left == 0 {
			s.begins = append(s.begins, time)
			left = all[at].Need
		}
		left--
		if left == 0 {
			s.leaves = append(s.leaves, time+1)
			at++
		}
	}
	return s
}

// Promise 7: waits are greatest sums.
func TestPromise7WaitsOf(t *testing.T) {
	cases := []struct {
		all   []impl.Customer
		waits []int
	}{
		{nil, nil}, {[]impl.Customer{}, nil}, {list(0, 1), []int{0}}, {list(60, 9), []int{0}}, {list(0, 4, 1, 2, 9, 1), []int{0, 3, 0}},
		{list(5, 2, 5, 3, 5, 4), []int{0, 2, 5}}, {same(8, 60, 9), []int{0, 9, 18, 27, 36, 45, 54, 63}}, {same(8, 0, 1), []int{0, 1, 2, 3, 4, 5, 6, 7}},
		{list(0, 9, 9, 9, 18, 9), []int{0, 0, 0}}, {list(0, 9, 8, 9, 17, 9), []int{0, 1, 1}}, {list(0, 9, 30, 9, 60, 9), []int{0, 0, 0}},
		{list(0, 9, 0, 9, 20, 5, 21, 1), []int{0, 9, 0, 4}}, {list(3, 5, 4, 5, 4, 5, 40, 2, 41, 2, 60, 1), []int{0, 4, 9, 0, 1, 0}},
		{same(9, 0, 1), nil}, {list(-1, 3), nil}, {list(61, 3), nil}, {list(0, 0), nil}, {list(0, 10), nil}, {list(2, 3, 1, 3), nil},
	}
	for _, c := range cases {
		if got := impl.WaitsOf(c.all); !slices.Equal(got, c.waits) {
			t.Errorf("WaitsOf(%v) is %v, not %v", c.all, got, c.waits)
		}
	}
	for _, all := range goodLists() {
		checkWaits(t, all)
	}
	for _, all := range badLists() {
		if got := impl.WaitsOf(all); len(got) != 0 {
			t.Fatalf("WaitsOf(%v) is %v, not nil", all, got)
		}
	}
}

func checkWaits(t *testing.T, all []impl.Customer) {
	t.Helper()
	waits := impl.WaitsOf(all)
	var want []int
	for i, begin := range servedAsTheyCome(all).begins {
		want = append(want, begin-all[i].Come)
	}
	if !slices.Equal(waits, want) {
		t.Fatalf("WaitsOf(%v) is %v, not %v", all, waits, want)
	}
	if n := len(all); n > 0 && !slices.Equal(impl.WaitsOf(all[:n-1]), waits[:n-1]) {
		t.Fatalf("WaitsOf(%v) is %v, without the last one %v", all, waits, impl.WaitsOf(all[:n-1]))
	}
	for _, by := range []int{0, 1, 20, 59, 60} {
		if later, ok := impl.LaterBy(all, by); ok && !slices.Equal(impl.WaitsOf(later), waits) {
			t.Fatalf("WaitsOf(%v) is %v, by %d later %v", all, waits, by, impl.WaitsOf(later))
		}
	}
}

func TestPromise7GreatestLack(t *testing.T) {
	three, alike := list(0, 4, 1, 2, 9, 1), list(5, 2, 5, 3, 5, 4)
	// Up to the place 3, the greatest of the three sums is that of the middle one ahead.
	middle := list(0, 1, 20, 9, 21, 9, 22, 1, 40, 1)
	cases := []struct {
		all      []impl.Customer
		at, lack int
	}{
		{three, 0, 0}, {three, 1, 3}, {three, 2, 0}, {alike, 0, 0}, {alike, 1, 2}, {alike, 2, 5},
		{middle, 1, 0}, {middle, 2, 8}, {middle, 3, 16}, {middle, 4, 0}, {list(0, 9, 60, 9), 1, 0}, {list(0, 9, 9, 1), 1, 0}, {list(0, 9, 8, 1), 1, 1},
		{same(8, 60, 9), 7, 63}, {same(8, 60, 9), 0, 0}, {list(60, 9), 0, 0},
		{nil, 0, -1}, {nil, -1, -1}, {[]impl.Customer{}, 0, -1}, {three, -1, -1}, {three, 3, -1}, {same(8, 0, 1), 8, -1}, {three[:1], 1, -1},
		{same(9, 0, 1), 0, -1}, {same(9, 0, 1), 8, -1}, {list(-1, 3), 0, -1}, {list(0, 1, 61, 3), 0, -1}, {list(0, 1, 0, 0), 0, -1}, {list(0, 10), 0, -1}, {list(2, 3, 1, 3), 1, -1},
	}
	for _, c := range cases {
		if got := impl.GreatestLack(c.all, c.at); got != c.lack {
			t.Errorf("GreatestLack(%v, %d) is %d, not %d", c.all, c.at, got, c.lack)
		}
	}
	for _, all := range goodLists() {
		checkLacks(t, all)
	}
}

func checkLacks(t *testing.T, all []impl.Customer) {
	t.Helper()
	waits := impl.WaitsOf(all)
	if len(waits) != len(all) {
		t.Fatalf("WaitsOf(%v) is %v", all, waits)
	}
	for at, c := range all {
		greatest := 0
		for from, ahead := range all[:at] {
			needed := 0
			for _, between := range all[from:at] {
				needed += between.Need
			}
			greatest = max(greatest, needed-(c.Come-ahead.Come))
		}
		if got := impl.GreatestLack(all, at); got != greatest || got != waits[at] {
			t.Fatalf("GreatestLack(%v, %d) is %d, not %d; the waits are %v", all, at, got, greatest, waits)
		}
	}
}

func TestPromise7GreatestLackOfOthers(t *testing.T) {
	otherPlaces(func(all []impl.Customer, at int) {
		if got := impl.GreatestLack(all, at); got != -1 {
			t.Fatalf("GreatestLack(%v, %d) is %d, not -1", all, at, got)
		}
	})
}

// Promise 8: customers leave in the order in which they come.
func TestPromise8LeavesOf(t *testing.T) {
	cases := []struct {
		all    []impl.Customer
		leaves []int
	}{
		{nil, nil}, {[]impl.Customer{}, nil}, {list(0, 1), []int{1}}, {list(60, 9), []int{69}}, {list(0, 4, 1, 2, 9, 1), []int{4, 6, 10}},
		{list(5, 2, 5, 3, 5, 4), []int{7, 10, 14}}, {same(8, 60, 9), []int{69, 78, 87, 96, 105, 114, 123, 132}}, {same(8, 0, 1), []int{1, 2, 3, 4, 5, 6, 7, 8}},
		{list(0, 9, 9, 9, 18, 9), []int{9, 18, 27}}, {list(0, 9, 30, 9, 60, 9), []int{9, 39, 69}}, {list(0, 9, 0, 9, 20, 5, 21, 1), []int{9, 18, 25, 26}},
		{same(9, 0, 1), nil}, {list(-1, 3), nil}, {list(61, 3), nil}, {list(0, 0), nil}, {list(0, 10), nil}, {list(2, 3, 1, 3), nil},
	}
	for _, c := range cases {
		if got := impl.LeavesOf(c.all); !slices.Equal(got, c.leaves) {
			t.Errorf("LeavesOf(%v) is %v, not %v", c.all, got, c.leaves)
		}
	}
	for _, all := range goodLists() {
		checkLeaves(t, all)
	}
	for _, all := range badLists() {
		if got := impl.LeavesOf(all); len(got) != 0 {
			t.Fatalf("LeavesOf(%v) is %v, not nil", all, got)
		}
	}
}

func checkLeaves(t *testing.T, all []impl.Customer) {
	t.Helper()
	leaves := impl.LeavesOf(all)
	if want := servedAsTheyCome(all).leaves; !slices.Equal(leaves, want) {
		t.Fatalf("LeavesOf(%v) is %v, not %v", all, leaves, want)
	}
	for i, c := range all {
		if i > 0 && leaves[i]-leaves[i-1] < c.Need {
			t.Fatalf("LeavesOf(%v) is %v: %d leaves too early", all, leaves, i)
		}
	}
	if n := len(all); n > 0 && leaves[n-1] != impl.LastLeave(all) {
		t.Fatalf("LeavesOf(%v) is %v, LastLeave %d", all, leaves, impl.LastLeave(all))
	}
}

// Promise 9: who comes first does not wait.
func TestPromise9FirstDoesNotWait(t *testing.T) {
	for _, all := range goodLists() {
		for at, wait := range impl.WaitsOf(all) {
			if at == 0 && wait != 0 {
				t.Fatalf("in %v the first one waits %d", all, wait)
			}
			if wait < 0 || wait > impl.NeedOf(all[:at]) {
				t.Fatalf("in %v, %d waits %d, all ahead need %d", all, at, wait, impl.NeedOf(all[:at]))
			}
		}
		if len(all) > 0 && impl.GreatestLack(all, 0) != 0 {
			t.Fatalf("GreatestLack(%v, 0) is %d", all, impl.GreatestLack(all, 0))
		}
	}
	// If all come together, each waits as long as all ahead need, and not less.
	for at, wait := range impl.WaitsOf(list(7, 3, 7, 9, 7, 1, 7, 2)) {
		if wait != []int{0, 3, 12, 13}[at] {
			t.Errorf("of those who come together, %d waits %d", at, wait)
		}
	}
}

// Promise 10: idle times are told by the greatest lack of work.
func TestPromise10IdleUntil(t *testing.T) {
	cases := []struct {
		all  []impl.Customer
		idle int
	}{
		{nil, 0}, {[]impl.Customer{}, 0}, {list(0, 1), 0}, {list(60, 9), 60}, {list(0, 4, 1, 2, 9, 1), 3}, {list(0, 4, 1, 2), 0},
		{list(5, 2, 5, 3, 5, 4), 5}, {same(8, 60, 9), 60}, {same(8, 0, 9), 0}, {list(0, 9, 9, 9, 18, 9), 0}, {list(0, 9, 10, 9, 20, 9), 2},
		{list(0, 9, 30, 9, 60, 9), 42}, {list(0, 1, 60, 1), 59}, {list(2, 1, 10, 9, 12, 9), 9},
		{same(9, 0, 1), -1}, {list(-1, 3), -1}, {list(61, 3), -1}, {list(0, 0), -1}, {list(0, 10), -1}, {list(2, 3, 1, 3), -1},
	}
	for _, c := range cases {
		if got := impl.IdleUntil(c.all); got != c.idle {
			t.Errorf("IdleUntil(%v) is %d, not %d", c.all, got, c.idle)
		}
	}
	for _, all := range goodLists() {
		checkIdle(t, all)
	}
	for _, all := range badLists() {
		if got := impl.IdleUntil(all); got != -1 {
			t.Fatalf("IdleUntil(%v) is %d, not -1", all, got)
		}
	}
}

func checkIdle(t *testing.T, all []impl.Customer) {
	t.Helper()
	idle := impl.IdleUntil(all)
	greatest, ahead := 0, 0
	for _, c := range all {
		greatest = max(greatest, c.Come-ahead)
		ahead += c.Need
	}
	if want := servedAsTheyCome(all).idle; idle != want || idle != greatest {
		t.Fatalf("IdleUntil(%v) is %d, not %d; the greatest lack is %d", all, idle, want, greatest)
	}
	if len(all) == 0 {
		return
	}
	if idle < all[0].Come {
		t.Fatalf("IdleUntil(%v) is %d, less than when the first one comes", all, idle)
	}
	if more, ok := impl.NeedingMore(all, len(all)-1); ok && impl.IdleUntil(more) != idle {
		t.Fatalf("IdleUntil(%v) is %d, with a further unit for the last one %d", all, idle, impl.IdleUntil(more))
	}
}

// Promise 11: who needs more makes none wait less.
func TestPromise11NeedingMore(t *testing.T) {
	three := list(0, 4, 1, 2, 9, 1)
	cases := []struct {
		all  []impl.Customer
		at   int
		more []impl.Customer
		ok   bool
	}{
		{three, 0, list(0, 5, 1, 2, 9, 1), true}, {three, 1, list(0, 4, 1, 3, 9, 1), true}, {three, 2, list(0, 4, 1, 2, 9, 2), true},
		{three, -1, nil, false}, {three, 3, nil, false}, {three, math.MinInt, nil, false}, {three, math.MaxInt, nil, false}, {three[:2], 2, nil, false},
		{nil, 0, nil, false}, {nil, -1, nil, false}, {[]impl.Customer{}, 0, nil, false},
		{list(60, 8), 0, list(60, 9), true}, {list(60, 9), 0, nil, false}, {list(0, 9, 0, 1), 0, nil, false}, {list(0, 9, 0, 1), 1, list(0, 9, 0, 2), true},
		{same(8, 0, 9), 7, nil, false}, {same(8, 0, 1), 8, nil, false}, {same(9, 0, 1), 0, nil, false}, {same(9, 0, 1), 8, nil, false},
		{list(0, 0), 0, nil, false}, {list(0, -1), 0, nil, false}, {list(0, math.MaxInt), 0, nil, false}, {list(-1, 3), 0, nil, false}, {list(0, 1, 61, 3), 0, nil, false}, {list(2, 3, 1, 3), 0, nil, false},
	}
	for _, c := range cases {
		if more, ok := impl.NeedingMore(c.all, c.at); ok != c.ok || !slices.Equal(more, c.more) {
			t.Errorf("NeedingMore(%v, %d) is %v, %v, not %v, %v", c.all, c.at, more, ok, c.more, c.ok)
		}
	}
	for _, all := range goodLists() {
		for at := range all {
			checkMore(t, all, at)
		}
	}
}

func checkMore(t *testing.T, all []impl.Customer, at int) {
	t.Helper()
	want := slices.Clone(all)
	want[at].Need++
	more, ok := impl.NeedingMore(all, at)
	if ok != goodByRule(want) || ok && !slices.Equal(more, want) || !ok && len(more) != 0 {
		t.Fatalf("NeedingMore(%v, %d) is %v, %v", all, at, more, ok)
	}
	if !ok {
		return
	}
	waits, longer := impl.WaitsOf(all), impl.WaitsOf(more)
	if len(waits) != len(all) || len(longer) != len(all) {
		t.Fatalf("the waits of %v are %v, and %v if %d needs more", all, waits, longer, at)
	}
	for i := range all {
		if further := longer[i] - waits[i]; further < 0 || further > 1 || i <= at && further != 0 {
			t.Fatalf("the waits of %v are %v, and %v if %d needs more", all, waits, longer, at)
		}
	}
}

func TestPromise11NeedingMoreOfOthers(t *testing.T) {
	otherPlaces(func(all []impl.Customer, at int) {
		if more, ok := impl.NeedingMore(all, at); ok || len(more) != 0 {
			t.Fatalf("NeedingMore(%v, %d) is %v, %v", all, at, more, ok)
		}
	})
}

// A general rule: arguments are never written to, whether they are customers or not.
func TestFirstCustomersAreNotWrittenTo(t *testing.T) {
	for _, all := range append(goodLists(), badLists()...) {
		untouched(t, all, func(part []impl.Customer) {
			scribbled(impl.WaitsOf(part), -7)
			scribbled(impl.LeavesOf(part), -7)
			impl.IdleUntil(part)
			for _, at := range []int{-1, 0, 1, 7, len(part) - 1, len(part)} {
				impl.GreatestLack(part, at)
				more, _ := impl.NeedingMore(part, at)
				scribbled(more, impl.Customer{Come: -7, Need: -7})
			}
		})
	}
}

// A general rule: results share no memory with each other, nor with an argument that is written to later.
func TestFirstResultsAreNew(t *testing.T) {
	all := list(0, 4, 1, 2, 9, 1)
	waits, leaves := impl.WaitsOf(all), impl.LeavesOf(all)
	more, _ := impl.NeedingMore(all, 1)
	scribbled(impl.WaitsOf(all), -7)
	scribbled(impl.LeavesOf(all), -7)
	other, _ := impl.NeedingMore(all, 1)
	scribbled(other, impl.Customer{Come: -7, Need: -7})
	again, _ := impl.NeedingMore(all, 1)
	wanted := list(0, 4, 1, 3, 9, 1)
	if !slices.Equal(impl.WaitsOf(all), waits) || !slices.Equal(impl.LeavesOf(all), leaves) || !slices.Equal(again, wanted) {
		t.Errorf("then they are %v, %v, %v", impl.WaitsOf(all), impl.LeavesOf(all), again)
	}
	scribbled(all, impl.Customer{Come: -7, Need: -7})
	if !slices.Equal(waits, []int{0, 3, 0}) || !slices.Equal(leaves, []int{4, 6, 10}) || !slices.Equal(more, wanted) {
		t.Errorf("they became %v, %v, %v", waits, leaves, more)
	}
}

// A general rule: no call leaves anything for the next one.
func TestFirstSameAgain(t *testing.T) {
	sameAgain(t, func(all []impl.Customer) []int {
		more, _ := impl.NeedingMore(all, 1)
		numbers := append(impl.WaitsOf(all), impl.GreatestLack(all, 1), impl.IdleUntil(all), impl.NeedOf(more), impl.IdleUntil(more))
		return append(numbers, impl.LeavesOf(all)...)
	})
}
