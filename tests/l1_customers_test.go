package tests

import (
	"math"
	"slices"
	"testing"

	"loop.example/onecounter/impl"
)

// Promise 1: who are customers, and who are none.
func TestPromise1Customers(t *testing.T) {
	good := [][]impl.Customer{
		nil, {}, list(0, 1), list(60, 9), list(0, 9), list(60, 1), same(8, 0, 1), same(8, 60, 9),
		list(3, 2, 3, 1), list(0, 1, 0, 9, 60, 1, 60, 9), list(0, 1, 1, 2, 2, 3, 3, 4, 4, 5, 5, 6, 6, 7, 7, 8),
	}
	for _, all := range good {
		if !impl.CustomersOk(all) {
			t.Errorf("not ok: %v", all)
		}
	}
	bad := [][]impl.Customer{
		list(-1, 1), list(61, 1), list(0, 0), list(0, 10), list(0, -1), list(math.MinInt, 1), list(math.MaxInt, 1),
		list(0, math.MinInt), list(0, math.MaxInt), list(1, 1, 0, 1), list(0, 1, 5, 1, 4, 1), list(5, 1, 6, 1, 5, 1),
		list(0, 1, 61, 1), list(0, 1, 0, 0), list(0, 1, 0, 10), same(9, 0, 1), same(9, 60, 9), same(100, 0, 1),
	}
	for _, all := range bad {
		if impl.CustomersOk(all) {
			t.Errorf("ok: %v", all)
		}
	}
}

func TestPromise1CustomersByRule(t *testing.T) {
	for _, all := range goodLists() {
		if !impl.CustomersOk(all) {
			t.Fatalf("not ok: %v", all)
		}
		for many := range len(all) {
			if !impl.CustomersOk(all[:many]) {
				t.Fatalf("not ok: the first %d of %v", many, all)
			}
		}
	}
	for _, all := range badLists() {
		if impl.CustomersOk(all) {
			t.Fatalf("ok: %v", all)
		}
	}
}

// Promise 2: needs add up.
func TestPromise2NeedOf(t *testing.T) {
	cases := []struct {
		all  []impl.Customer
		need int
	}{
		{nil, 0}, {[]impl.Customer{}, 0}, {list(0, 1), 1}, {list(60, 9), 9}, {list(0, 4, 1, 2, 9, 1), 7},
		{list(5, 2, 5, 3, 5, 4), 9}, {same(8, 0, 9), 72}, {same(8, 60, 1), 8},
		{same(9, 0, 1), -1}, {list(-1, 3), -1}, {list(61, 3), -1}, {list(0, 0), -1}, {list(0, 10), -1}, {list(2, 3, 1, 3), -1},
	}
	for _, c := range cases {
		if got := impl.NeedOf(c.all); got != c.need {
			t.Errorf("NeedOf(%v) is %d, not %d", c.all, got, c.need)
		}
	}
	for _, all := range goodLists() {
		if n := len(all); n > 0 && impl.NeedOf(all)-impl.NeedOf(all[:n-1]) != all[n-1].Need {
			t.Fatalf("NeedOf(%v) is %d", all, impl.NeedOf(all))
		}
	}
	for _, all := range badLists() {
		if got := impl.NeedOf(all); got != -1 {
			t.Fatalf("NeedOf(%v) is %d, not -1", all, got)
		}
	}
}

// Promise 3: more have come later.
func TestPromise3ComeBy(t *testing.T) {
	three, alike := list(0, 4, 1, 2, 9, 1), list(5, 2, 5, 3, 5, 4, 60, 9)
	cases := []struct {
		all        []impl.Customer
		time       int
		many, need int
	}{
		{nil, 0, 0, 0}, {nil, 1000, 0, 0}, {[]impl.Customer{}, 60, 0, 0},
		{three, 0, 1, 4}, {three, 1, 2, 6}, {three, 8, 2, 6}, {three, 9, 3, 7}, {three, 1000, 3, 7},
		{alike, 0, 0, 0}, {alike, 4, 0, 0}, {alike, 5, 3, 9}, {alike, 59, 3, 9}, {alike, 60, 4, 18}, {alike, 61, 4, 18},
		{same(8, 60, 9), 59, 0, 0}, {same(8, 60, 9), 60, 8, 72},
	}
	for _, c := range cases {
		if many, need, ok := impl.ComeBy(c.all, c.time); !ok || many != c.many || need != c.need {
			t.Errorf("ComeBy(%v, %d) is %d, %d, %v, not %d, %d", c.all, c.time, many, need, ok, c.many, c.need)
		}
	}
	for _, all := range goodLists() {
		for time := 0; time <= 1000; time += stepAt(time) {
			checkComeBy(t, all, time)
		}
	}
}

// stepAt spares most of the times at which all have come.
func stepAt(time int) int {
	if time < 70 || time > 997 {
		return 1
	}
	return 31
}

func checkComeBy(t *testing.T, all []impl.Customer, time int) {
	t.Helper()
	wantMany, wantNeed := 0, 0
	for _, c := range all {
		if c.Come <= time {
			wantMany, wantNeed = wantMany+1, wantNeed+c.Need
		}
	}
	many, need, ok := impl.ComeBy(all, time)
	if !ok || many != wantMany || need != wantNeed {
		t.Fatalf("ComeBy(%v, %d) is %d, %d, %v, not %d, %d", all, time, many, need, ok, wantMany, wantNeed)
	}
	if time >= 60 && (many != len(all) || need != impl.NeedOf(all)) {
		t.Fatalf("not all of %v have come at %d: %d, %d", all, time, many, need)
	}
	if time == 1000 {
		return
	}
	if more, needs, ok := impl.ComeBy(all, time+1); !ok || more < many || needs < need {
		t.Fatalf("ComeBy(%v, %d) is %d, %d, %v, less than one unit before", all, time+1, more, needs, ok)
	}
}

func TestPromise3ComeByOfOthers(t *testing.T) {
	refused := func(all []impl.Customer, time int) {
		t.Helper()
		if many, need, ok := impl.ComeBy(all, time); ok || many != -1 || need != -1 {
			t.Fatalf("ComeBy(%v, %d) is %d, %d, %v", all, time, many, need, ok)
		}
	}
	for _, time := range []int{math.MinInt, -1, 1001, math.MaxInt} {
		for _, all := range goodLists() {
			refused(all, time)
		}
	}
	for _, all := range badLists() {
		for _, time := range []int{-1, 0, 5, 60, 1000, 1001} {
			refused(all, time)
		}
	}
}

// Promise 4: gaps are between those who come.
func TestPromise4GapsOf(t *testing.T) {
	cases := []struct {
		all  []impl.Customer
		gaps []int
	}{
		{nil, nil}, {[]impl.Customer{}, nil}, {list(60, 9), nil}, {list(0, 4, 1, 2, 9, 1), []int{1, 8}},
		{list(5, 2, 5, 3, 5, 4), []int{0, 0}}, {list(0, 1, 60, 1), []int{60}}, {list(2, 1, 2, 1, 7, 1, 7, 1), []int{0, 5, 0}},
		{same(8, 60, 1), []int{0, 0, 0, 0, 0, 0, 0}},
	}
	for _, c := range cases {
		if got := impl.GapsOf(c.all); !slices.Equal(got, c.gaps) {
			t.Errorf("GapsOf(%v) is %v, not %v", c.all, got, c.gaps)
		}
	}
	for _, all := range goodLists() {
		checkGaps(t, all)
	}
	for _, all := range badLists() {
		if got := impl.GapsOf(all); len(got) != 0 {
			t.Fatalf("GapsOf(%v) is %v, not nil", all, got)
		}
	}
}

func checkGaps(t *testing.T, all []impl.Customer) {
	t.Helper()
	gaps := impl.GapsOf(all)
	if len(gaps) != max(len(all)-1, 0) {
		t.Fatalf("GapsOf(%v) is %v", all, gaps)
	}
	sum := 0
	for i, gap := range gaps {
		if sum += gap; all[0].Come+sum != all[i+1].Come {
			t.Fatalf("GapsOf(%v) is %v", all, gaps)
		}
	}
	for _, by := range []int{0, 1, 20, 60} {
		if later, ok := impl.LaterBy(all, by); ok && !slices.Equal(impl.GapsOf(later), gaps) {
			t.Fatalf("the gaps of %v are not those of %v", later, all)
		}
	}
}

// Promise 5: all come later.
func TestPromise5LaterBy(t *testing.T) {
	three := list(0, 4, 1, 2, 9, 1)
	cases := []struct {
		all   []impl.Customer
		by    int
		later []impl.Customer
		ok    bool
	}{
		{nil, 0, nil, true}, {nil, 60, nil, true}, {[]impl.Customer{}, 7, nil, true}, {nil, -1, nil, false}, {nil, 61, nil, false},
		{three, 0, three, true}, {three, 3, list(3, 4, 4, 2, 12, 1), true}, {three, 51, list(51, 4, 52, 2, 60, 1), true},
		{three, 52, nil, false}, {three, -1, nil, false}, {three, 60, nil, false}, {three, 61, nil, false},
		{list(0, 9), 60, list(60, 9), true}, {list(0, 9), 61, nil, false}, {list(60, 9), 0, list(60, 9), true}, {list(60, 9), 1, nil, false},
		{list(5, 1), -1, nil, false}, {list(5, 1), math.MinInt, nil, false}, {list(5, 1), math.MaxInt, nil, false},
		{same(8, 5, 1), 55, same(8, 60, 1), true}, {same(9, 5, 1), 1, nil, false},
		{list(-1, 1), 1, nil, false}, {list(-1, 1), 5, nil, false}, {list(61, 1), 0, nil, false}, {list(0, 0), 1, nil, false}, {list(0, 10), 1, nil, false},
	}
	for _, c := range cases {
		if later, ok := impl.LaterBy(c.all, c.by); ok != c.ok || !slices.Equal(later, c.later) {
			t.Errorf("LaterBy(%v, %d) is %v, %v, not %v, %v", c.all, c.by, later, ok, c.later, c.ok)
		}
	}
}

func TestPromise5LaterByEach(t *testing.T) {
	for _, all := range goodLists() {
		for by := -2; by <= 62; by++ {
			checkLater(t, all, by)
		}
	}
	for _, all := range badLists() {
		for _, by := range []int{math.MinInt, -1, 0, 1, 30, 60, 61, math.MaxInt} {
			if later, ok := impl.LaterBy(all, by); ok || len(later) != 0 {
				t.Fatalf("LaterBy(%v, %d) is %v, %v", all, by, later, ok)
			}
		}
	}
}

func checkLater(t *testing.T, all []impl.Customer, by int) {
	t.Helper()
	var want []impl.Customer
	for _, c := range all {
		want = append(want, impl.Customer{Come: c.Come + by, Need: c.Need})
	}
	may := by >= 0 && by <= 60 && goodByRule(want)
	later, ok := impl.LaterBy(all, by)
	if ok != may || !ok && len(later) != 0 || ok && !slices.Equal(later, want) {
		t.Fatalf("LaterBy(%v, %d) is %v, %v", all, by, later, ok)
	}
	if ok && len(all) > 0 && impl.LastLeave(later) != impl.LastLeave(all)+by {
		t.Fatalf("LastLeave of %v is %d, by %d later %d", all, impl.LastLeave(all), by, impl.LastLeave(later))
	}
}

// Promise 6: nobody is served before coming.
func TestPromise6LastLeave(t *testing.T) {
	cases := []struct {
		all  []impl.Customer
		last int
	}{
		{nil, 0}, {[]impl.Customer{}, 0}, {list(0, 1), 1}, {list(60, 9), 69}, {list(0, 4, 1, 2, 9, 1), 10}, {list(0, 4, 1, 2), 6},
		{list(0, 4, 4, 1), 5}, {list(0, 4, 5, 1), 6}, {list(5, 2, 5, 3, 5, 4), 14}, {list(2, 9, 3, 9, 20, 1), 21}, {list(2, 9, 3, 9, 19, 1), 21},
		{same(8, 0, 9), 72}, {same(8, 60, 9), 132}, {list(0, 9, 60, 1), 61},
		{same(9, 0, 1), -1}, {list(-1, 3), -1}, {list(61, 3), -1}, {list(0, 0), -1}, {list(0, 10), -1}, {list(2, 3, 1, 3), -1},
	}
	for _, c := range cases {
		if got := impl.LastLeave(c.all); got != c.last {
			t.Errorf("LastLeave(%v) is %d, not %d", c.all, got, c.last)
		}
	}
	for _, all := range goodLists() {
		checkLastLeave(t, all)
	}
	for _, all := range badLists() {
		if got := impl.LastLeave(all); got != -1 {
			t.Fatalf("LastLeave(%v) is %d, not -1", all, got)
		}
	}
}

func checkLastLeave(t *testing.T, all []impl.Customer) {
	t.Helper()
	greatest := 0
	for i, c := range all {
		number := c.Come
		for _, x := range all[i:] {
			number += x.Need
		}
		greatest = max(greatest, number)
	}
	last := impl.LastLeave(all)
	if last != greatest || last < impl.NeedOf(all) {
		t.Fatalf("LastLeave(%v) is %d, not %d", all, last, greatest)
	}
	if n := len(all); n > 0 {
		end := all[n-1]
		if last != max(impl.LastLeave(all[:n-1]), end.Come)+end.Need {
			t.Fatalf("LastLeave(%v) is %d, without the last customer %d", all, last, impl.LastLeave(all[:n-1]))
		}
	}
}

// A general rule: arguments are never written to, whether they are customers or not.
func TestCustomersAreNotWrittenTo(t *testing.T) {
	for _, all := range append(goodLists(), badLists()...) {
		untouched(t, all, func(part []impl.Customer) {
			impl.CustomersOk(part)
			impl.NeedOf(part)
			impl.LastLeave(part)
			scribbled(impl.GapsOf(part), -7)
			for _, number := range []int{-1, 0, 3, 60, 61} {
				impl.ComeBy(part, number)
				later, _ := impl.LaterBy(part, number)
				scribbled(later, impl.Customer{Come: -7, Need: -7})
			}
		})
	}
}

// A general rule: results share no memory with each other, and no call leaves anything for the next one.
func TestCustomersResultsAreNew(t *testing.T) {
	all := list(0, 4, 1, 2, 9, 1)
	gaps := impl.GapsOf(all)
	scribbled(impl.GapsOf(all), -7)
	if !slices.Equal(gaps, []int{1, 8}) || !slices.Equal(impl.GapsOf(all), []int{1, 8}) {
		t.Errorf("gaps are %v, and then %v", gaps, impl.GapsOf(all))
	}
	for _, by := range []int{0, 3} {
		later, _ := impl.LaterBy(all, by)
		before := slices.Clone(later)
		other, _ := impl.LaterBy(all, by)
		scribbled(other, impl.Customer{Come: -7, Need: -7})
		again, _ := impl.LaterBy(all, by)
		if !slices.Equal(later, before) || !slices.Equal(again, before) {
			t.Errorf("customers by %d later are %v, and then %v", by, later, again)
		}
		all[1].Need = 5
		if !slices.Equal(later, before) {
			t.Errorf("customers by %d later became %v", by, later)
		}
		all[1].Need = 2
	}
}

func TestCustomersSameAgain(t *testing.T) {
	sameAgain(t, func(all []impl.Customer) []int {
		many, need, _ := impl.ComeBy(all, 6)
		later, _ := impl.LaterBy(all, 6)
		return append(impl.GapsOf(all), impl.NeedOf(all), many, need, impl.NeedOf(later), impl.LastLeave(all))
	})
}
