package tests

import (
	"math"
	"slices"
	"testing"

	"loop.example/onecounter/impl"
)

// othersOfEachKind has, for each reason, one list that is none of customers.
func othersOfEachKind() [][]impl.Customer {
	return [][]impl.Customer{same(9, 0, 1), list(-1, 3), list(61, 3), list(0, 0), list(0, 10), list(2, 3, 1, 3)}
}

// timesPast has times that are not looked at.
func timesPast() []int {
	return []int{math.MinInt, -200, -1, 201, 202, math.MaxInt}
}

// otherTimes calls for customers with times that are not looked at, and for others with any time.
func otherTimes(call func(all []impl.Customer, time int)) {
	for _, all := range goodLists() {
		for _, time := range timesPast() {
			call(all, time)
		}
	}
	for _, all := range badLists() {
		for _, time := range append(timesPast(), 0, 1, 7, 60, 200) {
			call(all, time)
		}
	}
}

// busyUnits tells for each unit whether somebody is served in it, by when each begins and leaves, and so in another way than the program.
func busyUnits(all []impl.Customer) [201]bool {
	var busy [201]bool
	s := servedAsTheyCome(all)
	for i, begin := range s.begins {
		for time := begin; time < s.leaves[i]; time++ {
			busy[time] = true
		}
	}
	return busy
}

// rowsOfUnits has the longest rows of units that are busy, each by its first unit and the unit behind its last one.
func rowsOfUnits(busy [201]bool) [][]int {
	var rows [][]int
	for time := 0; time < len(busy); time++ {
		first := time
		for time < len(busy) && busy[time] {
			time++
		}
		if time > first {
			rows = append(rows, []int{first, time})
		}
	}
	return rows
}

func sameRows(a, b [][]int) bool {
	return slices.EqualFunc(a, b, slices.Equal[[]int])
}

// Promise 12: work is what came, less what was served.
func TestPromise12WorkAt(t *testing.T) {
	three, touching := list(0, 4, 1, 2, 9, 1), list(0, 9, 9, 9, 18, 9)
	alike, late := list(5, 2, 5, 3, 5, 4), same(8, 60, 9)
	cases := []struct {
		all        []impl.Customer
		time, work int
	}{
		{nil, 0, 0}, {nil, 200, 0}, {[]impl.Customer{}, 7, 0}, {nil, -1, -1}, {nil, 201, -1},
		{list(0, 1), 0, 1}, {list(0, 1), 1, 0}, {list(60, 9), 59, 0}, {list(60, 9), 60, 9}, {list(60, 9), 68, 1}, {list(60, 9), 69, 0}, {list(60, 9), 200, 0},
		{three, 0, 4}, {three, 1, 5}, {three, 2, 4}, {three, 5, 1}, {three, 6, 0}, {three, 8, 0}, {three, 9, 1}, {three, 10, 0}, {three, 200, 0},
		{touching, 0, 9}, {touching, 8, 1}, {touching, 9, 9}, {touching, 17, 1}, {touching, 18, 9}, {touching, 26, 1}, {touching, 27, 0},
		{alike, 0, 0}, {alike, 4, 0}, {alike, 5, 9}, {alike, 6, 8}, {alike, 13, 1}, {alike, 14, 0},
		{late, 59, 0}, {late, 60, 72}, {late, 131, 1}, {late, 132, 0}, {late, 200, 0}, {same(8, 0, 9), 0, 72}, {same(8, 0, 9), 72, 0},
		{three, -1, -1}, {three, 201, -1}, {three, math.MinInt, -1}, {three, math.MaxInt, -1},
	}
	for _, c := range cases {
		if got := impl.WorkAt(c.all, c.time); got != c.work {
			t.Errorf("WorkAt(%v, %d) is %d, not %d", c.all, c.time, got, c.work)
		}
	}
	for _, all := range goodLists() {
		checkWork(t, all)
	}
}

func checkWork(t *testing.T, all []impl.Customer) {
	t.Helper()
	busy, served, last := busyUnits(all), 0, impl.LastLeave(all)
	for time := range 201 {
		_, come, _ := impl.ComeBy(all, time)
		work := impl.WorkAt(all, time)
		if work != come-served {
			t.Fatalf("WorkAt(%v, %d) is %d, not %d", all, time, work, come-served)
		}
		if before := impl.ServedBy(all, time); work+before != come {
			t.Fatalf("at %d in %v, %d of work and %d served are not %d", time, all, work, before, come)
		}
		if time >= last && work != 0 {
			t.Fatalf("WorkAt(%v, %d) is %d, LastLeave %d", all, time, work, last)
		}
		if busy[time] {
			served++
		}
	}
}

func TestPromise12WorkAtOfOthers(t *testing.T) {
	for _, all := range othersOfEachKind() {
		if got := impl.WorkAt(all, 0); got != -1 {
			t.Errorf("WorkAt(%v, 0) is %d, not -1", all, got)
		}
	}
	otherTimes(func(all []impl.Customer, time int) {
		if got := impl.WorkAt(all, time); got != -1 {
			t.Fatalf("WorkAt(%v, %d) is %d, not -1", all, time, got)
		}
	})
}

// Promise 13: busy periods are as long as the work in them.
func TestPromise13BusyOf(t *testing.T) {
	cases := []struct {
		all  []impl.Customer
		busy [][]int
	}{
		{nil, nil}, {[]impl.Customer{}, nil}, {list(0, 1), [][]int{{0, 1}}}, {list(60, 9), [][]int{{60, 69}}}, {list(0, 4, 1, 2, 9, 1), [][]int{{0, 6}, {9, 10}}},
		{list(0, 2, 2, 1), [][]int{{0, 3}}}, {list(0, 2, 3, 1), [][]int{{0, 2}, {3, 4}}}, {list(0, 9, 9, 9, 18, 9), [][]int{{0, 27}}}, {list(0, 9, 9, 9, 19, 9), [][]int{{0, 18}, {19, 28}}},
		{list(5, 2, 5, 3, 5, 4), [][]int{{5, 14}}}, {list(0, 9, 30, 9, 60, 9), [][]int{{0, 9}, {30, 39}, {60, 69}}}, {list(2, 1, 3, 1, 5, 1, 6, 1), [][]int{{2, 4}, {5, 7}}},
		{list(0, 1, 2, 1, 4, 1, 6, 1, 8, 1, 10, 1, 12, 1, 14, 1), [][]int{{0, 1}, {2, 3}, {4, 5}, {6, 7}, {8, 9}, {10, 11}, {12, 13}, {14, 15}}},
		{same(8, 0, 9), [][]int{{0, 72}}}, {same(8, 60, 9), [][]int{{60, 132}}}, {list(0, 9, 0, 9, 18, 1, 20, 2), [][]int{{0, 19}, {20, 22}}},
	}
	for _, c := range cases {
		if got := impl.BusyOf(c.all); !sameRows(got, c.busy) {
			t.Errorf("BusyOf(%v) is %v, not %v", c.all, got, c.busy)
		}
	}
	for _, all := range goodLists() {
		checkBusy(t, all)
	}
}

func checkBusy(t *testing.T, all []impl.Customer) {
	t.Helper()
	busy := impl.BusyOf(all)
	if want := rowsOfUnits(busyUnits(all)); !sameRows(busy, want) {
		t.Fatalf("BusyOf(%v) is %v, not %v", all, busy, want)
	}
	for i, row := range busy {
		need := 0
		for _, at := range impl.ComeIn(all, i) {
			need += all[at].Need
		}
		if row[1]-row[0] != need {
			t.Fatalf("BusyOf(%v) is %v: in %d the work is %d", all, busy, i, need)
		}
		if !slices.ContainsFunc(all, func(c impl.Customer) bool { return c.Come == row[0] }) {
			t.Fatalf("BusyOf(%v) is %v: nobody comes when %d begins", all, busy, i)
		}
		if i > 0 && row[0] <= busy[i-1][1] {
			t.Fatalf("BusyOf(%v) is %v: %d touches the one ahead", all, busy, i)
		}
	}
	if n := len(busy); n > 0 && busy[n-1][1] != impl.LastLeave(all) {
		t.Fatalf("BusyOf(%v) is %v, LastLeave %d", all, busy, impl.LastLeave(all))
	}
}

func TestPromise13BusyOfOthers(t *testing.T) {
	for _, all := range append(othersOfEachKind(), badLists()...) {
		if got := impl.BusyOf(all); len(got) != 0 {
			t.Fatalf("BusyOf(%v) is %v, not nil", all, got)
		}
	}
}

// Promise 14: each customer comes in one busy period.
func TestPromise14ComeIn(t *testing.T) {
	three, pairs := list(0, 4, 1, 2, 9, 1), list(2, 1, 3, 1, 5, 1, 6, 1)
	cases := []struct {
		all    []impl.Customer
		period int
		places []int
	}{
		{nil, 0, nil}, {nil, -1, nil}, {[]impl.Customer{}, 0, nil}, {list(0, 1), 0, []int{0}}, {list(60, 9), 0, []int{0}}, {list(60, 9), 1, nil},
		{three, 0, []int{0, 1}}, {three, 1, []int{2}}, {three, -1, nil}, {three, 2, nil}, {three, math.MinInt, nil}, {three, math.MaxInt, nil},
		{pairs, 0, []int{0, 1}}, {pairs, 1, []int{2, 3}}, {pairs, 2, nil}, {list(0, 2, 2, 1), 0, []int{0, 1}}, {list(0, 2, 2, 1), 1, nil},
		{list(0, 2, 3, 1), 0, []int{0}}, {list(0, 2, 3, 1), 1, []int{1}}, {list(0, 9, 9, 9, 18, 9), 0, []int{0, 1, 2}},
		{list(0, 9, 30, 9, 30, 1, 60, 9), 1, []int{1, 2}}, {same(8, 60, 9), 0, []int{0, 1, 2, 3, 4, 5, 6, 7}}, {same(8, 60, 9), 1, nil},
	}
	for _, c := range cases {
		if got := impl.ComeIn(c.all, c.period); !slices.Equal(got, c.places) {
			t.Errorf("ComeIn(%v, %d) is %v, not %v", c.all, c.period, got, c.places)
		}
	}
	for _, all := range goodLists() {
		checkComeIn(t, all)
	}
}

func checkComeIn(t *testing.T, all []impl.Customer) {
	t.Helper()
	waits, leaves, together := impl.WaitsOf(all), impl.LeavesOf(all), 0
	for i, row := range impl.BusyOf(all) {
		places := impl.ComeIn(all, i)
		if len(places) == 0 || waits[places[0]] != 0 {
			t.Fatalf("ComeIn(%v, %d) is %v, the waits are %v", all, i, places, waits)
		}
		for _, at := range places {
			if at != together {
				t.Fatalf("ComeIn(%v, %d) is %v: not those behind the periods ahead", all, i, places)
			}
			if come := all[at].Come; come < row[0] || come >= row[1] || leaves[at] <= row[0] || leaves[at] > row[1] {
				t.Fatalf("ComeIn(%v, %d) is %v, the period %v, the leaves %v", all, i, places, row, leaves)
			}
			together++
		}
	}
	if together != len(all) {
		t.Fatalf("all busy periods of %v have %d of the customers", all, together)
	}
	for _, period := range pastPlaces(len(impl.BusyOf(all))) {
		if got := impl.ComeIn(all, period); len(got) != 0 {
			t.Fatalf("ComeIn(%v, %d) is %v, not nil", all, period, got)
		}
	}
}

func TestPromise14ComeInOfOthers(t *testing.T) {
	for _, all := range append(othersOfEachKind(), badLists()...) {
		for _, period := range append(pastPlaces(len(all)), 0, 1, 2) {
			if got := impl.ComeIn(all, period); len(got) != 0 {
				t.Fatalf("ComeIn(%v, %d) is %v, not nil", all, period, got)
			}
		}
	}
}

// Promise 15: served is served.
func TestPromise15ServedBy(t *testing.T) {
	three, late := list(0, 4, 1, 2, 9, 1), same(8, 60, 9)
	cases := []struct {
		all          []impl.Customer
		time, served int
	}{
		{nil, 0, 0}, {nil, 200, 0}, {[]impl.Customer{}, 7, 0}, {nil, -1, -1}, {nil, 201, -1},
		{list(0, 1), 0, 0}, {list(0, 1), 1, 1}, {list(0, 1), 200, 1}, {list(60, 9), 60, 0}, {list(60, 9), 61, 1}, {list(60, 9), 69, 9}, {list(60, 9), 70, 9},
		{three, 0, 0}, {three, 1, 1}, {three, 6, 6}, {three, 7, 6}, {three, 9, 6}, {three, 10, 7}, {three, 11, 7}, {three, 200, 7},
		{list(0, 2, 2, 1), 2, 2}, {list(0, 2, 2, 1), 3, 3}, {list(0, 2, 2, 1), 4, 3}, {list(5, 2, 5, 3, 5, 4), 5, 0}, {list(5, 2, 5, 3, 5, 4), 14, 9},
		{late, 60, 0}, {late, 61, 1}, {late, 131, 71}, {late, 132, 72}, {late, 133, 72}, {late, 200, 72}, {same(8, 0, 9), 71, 71}, {same(8, 0, 9), 73, 72},
		{three, -1, -1}, {three, 201, -1}, {three, math.MinInt, -1}, {three, math.MaxInt, -1},
	}
	for _, c := range cases {
		if got := impl.ServedBy(c.all, c.time); got != c.served {
			t.Errorf("ServedBy(%v, %d) is %d, not %d", c.all, c.time, got, c.served)
		}
	}
	for _, all := range goodLists() {
		checkServed(t, all)
	}
}

func checkServed(t *testing.T, all []impl.Customer) {
	t.Helper()
	busy, want := busyUnits(all), 0
	for time := range 201 {
		served := impl.ServedBy(all, time)
		if served != want || served > time {
			t.Fatalf("ServedBy(%v, %d) is %d, not %d", all, time, served, want)
		}
		if busy[time] {
			want++
		}
		if time == 200 {
			continue
		}
		if later := impl.ServedBy(all, time+1); later != served && later != served+1 {
			t.Fatalf("ServedBy(%v, %d) is %d, and %d one unit later", all, time, served, later)
		}
	}
	if got := impl.ServedBy(all, 200); got != impl.NeedOf(all) {
		t.Fatalf("ServedBy(%v, 200) is %d, not %d", all, got, impl.NeedOf(all))
	}
}

func TestPromise15ServedByOfOthers(t *testing.T) {
	for _, all := range othersOfEachKind() {
		if got := impl.ServedBy(all, 200); got != -1 {
			t.Errorf("ServedBy(%v, 200) is %d, not -1", all, got)
		}
	}
	otherTimes(func(all []impl.Customer, time int) {
		if got := impl.ServedBy(all, time); got != -1 {
			t.Fatalf("ServedBy(%v, %d) is %d, not -1", all, time, got)
		}
	})
}

// scribbledRows writes to all the memory of each row, and then to that of the rows.
func scribbledRows(rows [][]int) {
	for _, row := range rows {
		scribbled(row, -7)
	}
	scribbled(rows, []int{-7})
}

// A general rule: arguments are never written to, whether they are customers or not.
func TestWorkCustomersAreNotWrittenTo(t *testing.T) {
	for _, all := range append(goodLists(), badLists()...) {
		untouched(t, all, func(part []impl.Customer) {
			scribbledRows(impl.BusyOf(part))
			for _, number := range []int{-1, 0, 1, 2, 8, 60, 200, 201} {
				impl.WorkAt(part, number)
				impl.ServedBy(part, number)
				scribbled(impl.ComeIn(part, number), -7)
			}
		})
	}
}

// A general rule: results share no memory with each other, nor with an argument that is written to later.
func TestWorkResultsAreNew(t *testing.T) {
	all := list(0, 4, 1, 2, 9, 1)
	wanted := [][]int{{0, 6}, {9, 10}}
	busy, places := impl.BusyOf(all), impl.ComeIn(all, 0)
	scribbledRows(impl.BusyOf(all))
	scribbled(impl.ComeIn(all, 0), -7)
	if again := impl.BusyOf(all); !sameRows(again, wanted) || !slices.Equal(impl.ComeIn(all, 0), []int{0, 1}) {
		t.Errorf("then they are %v, %v", again, impl.ComeIn(all, 0))
	}
	scribbled(all, impl.Customer{Come: -7, Need: -7})
	if !sameRows(busy, wanted) || !slices.Equal(places, []int{0, 1}) {
		t.Errorf("they became %v, %v", busy, places)
	}
}

// The rows of one result share no memory, including spare capacity.
func TestWorkRowsAreApart(t *testing.T) {
	all := list(0, 1, 2, 1, 4, 1, 6, 1, 8, 1, 10, 1, 12, 1, 14, 1)
	wanted := impl.BusyOf(all)
	for i := range wanted {
		busy := impl.BusyOf(all)
		scribbled(append(busy[i], -7), -7)
		scribbled(busy[i], -7)
		for k, row := range busy {
			if k != i && !slices.Equal(row, wanted[k]) {
				t.Errorf("the row %d became %v when %d was written to", k, row, i)
			}
		}
	}
}

// A general rule: no call leaves anything for the next one.
func TestWorkSameAgain(t *testing.T) {
	sameAgain(t, func(all []impl.Customer) []int {
		numbers := []int{impl.WorkAt(all, 0), impl.WorkAt(all, 7), impl.WorkAt(all, 61), impl.ServedBy(all, 7), impl.ServedBy(all, 200)}
		for i, row := range impl.BusyOf(all) {
			numbers = append(append(numbers, row...), impl.ComeIn(all, i)...)
		}
		return numbers
	})
}
