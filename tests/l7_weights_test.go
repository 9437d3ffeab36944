package tests

import (
	"math"
	"slices"
	"testing"

	"loop.example/onecounter/impl"
)

// weightedByWords adds for each task what all up to it need, times its weight.
func weightedByWords(all []impl.Task, order []int) int {
	sum := 0
	for i, place := range order {
		for _, ahead := range order[:i+1] {
			sum += all[ahead].Need * all[place].Weight
		}
	}
	return sum
}

func leastByWords(all []impl.Task) int {
	least := math.MaxInt
	for _, order := range ordersOfSo(len(all)) {
		least = min(least, weightedByWords(all, order))
	}
	return least
}

// Promise 30: who are tasks, and who are none.
func TestPromise30TasksOk(t *testing.T) {
	good := [][]impl.Task{
		tasks(1, 0), tasks(9, 9), tasks(1, 9), tasks(9, 0), tasks(3, 1, 1, 1, 2, 4), tasks(3, 0, 3, 0), sameTasks(6, 1, 0), sameTasks(6, 9, 9), tasks(1, 0, 9, 9, 1, 9, 9, 0, 5, 5, 5, 4),
	}
	for _, all := range append(good, goodTasks()...) {
		if !impl.TasksOk(all) || !impl.TasksOk(reversed(all)) {
			t.Fatalf("not ok, from one of both sides: %v", all)
		}
	}
	bad := [][]impl.Task{
		nil, {}, tasks(0, 0), tasks(10, 0), tasks(-1, 0), tasks(1, -1), tasks(1, 10), tasks(math.MaxInt, 1), tasks(1, math.MinInt), sameTasks(7, 1, 0), tasks(1, 1, 0, 1), tasks(1, 1, 1, 10), tasks(1, 1, 1, -1, 1, 1),
	}
	for _, all := range append(bad, badTasks()...) {
		if impl.TasksOk(all) || impl.TasksOk(reversed(all)) {
			t.Fatalf("ok, from one of both sides: %v", all)
		}
	}
}

// Promise 31: each number is there.
func TestPromise31EachOnce(t *testing.T) {
	cases := []struct {
		row  []int
		many int
		want bool
	}{
		{[]int{0}, 1, true}, {[]int{0, 1}, 2, true}, {[]int{1, 0}, 2, true}, {[]int{2, 0, 1}, 3, true}, {[]int{5, 3, 1, 0, 2, 4}, 6, true}, {[]int{0, 1, 2, 3, 4, 5}, 6, true},
		{nil, 0, false}, {nil, 1, false}, {[]int{}, -1, false}, {nil, math.MinInt, false}, {nil, math.MaxInt, false}, {[]int{1}, 1, false}, {[]int{-1}, 1, false}, {[]int{math.MinInt}, 1, false}, {[]int{math.MaxInt}, 1, false},
		{[]int{0, 0}, 2, false}, {[]int{1, 1}, 2, false}, {[]int{1, 2}, 2, false}, {[]int{0, 2}, 2, false}, {[]int{0, 1, 1}, 3, false}, {[]int{0, 3, 1}, 3, false}, {[]int{0, -1, 1}, 3, false}, {[]int{0, 1, 2, 3, 4, 4}, 6, false},
		{[]int{0, 1}, 1, false}, {[]int{0, 1}, 3, false}, {[]int{0, 1, 2}, 2, false}, {[]int{0, 1, 5}, 2, false}, {[]int{0, 1, -1}, 2, false}, {[]int{0, 1, 0}, 2, false}, {[]int{0}, 0, false}, {[]int{0}, math.MaxInt, false},
		{[]int{0, 1, 2, 3, 4, 5, 6}, 7, false}, {[]int{0, 1, 2, 3, 4, 5, 6}, 6, false}, {[]int{0, 1, 2, 3, 4, 5}, 7, false}, {slices.Repeat([]int{0}, 64), 6, false},
	}
	for _, c := range cases {
		if got := impl.EachOnce(c.row, c.many); got != c.want {
			t.Errorf("EachOnce(%v, %d) is %v", c.row, c.many, got)
		}
	}
	for many := 1; many <= 6; many++ {
		for _, order := range ordersOfSo(many) {
			if !impl.EachOnce(order, many) || !impl.EachOnce(reversed(order), many) {
				t.Fatalf("not each once, from one of both sides: %v", order)
			}
		}
		for _, row := range noOrdersOf(many) {
			if impl.EachOnce(row, many) || impl.EachOnce(reversed(row), many) {
				t.Fatalf("each of %d once, from one of both sides: %v", many, row)
			}
		}
	}
}

func TestPromise31EachOnceOfAllRows(t *testing.T) {
	for long := range 7 {
		for _, row := range allRows(long, -1, long) {
			for many := -1; many <= 8; many++ {
				if got := impl.EachOnce(row, many); got != eachOnceByWords(row, many) || got != impl.EachOnce(reversed(row), many) {
					t.Fatalf("EachOnce(%v, %d) is %v, and of the row from the last one on %v", row, many, got, impl.EachOnce(reversed(row), many))
				}
			}
		}
	}
}

// Promise 32: an exchange changes by crosswise products.
func TestPromise32WeightedSum(t *testing.T) {
	three, zero := tasks(3, 1, 1, 1, 2, 4), tasks(5, 0, 2, 3)
	cases := []struct {
		all   []impl.Task
		order []int
		sum   int
	}{
		{three, []int{0, 1, 2}, 31}, {three, []int{0, 2, 1}, 29}, {three, []int{1, 0, 2}, 29}, {three, []int{1, 2, 0}, 19}, {three, []int{2, 0, 1}, 19}, {three, []int{2, 1, 0}, 17},
		{zero, []int{0, 1}, 21}, {zero, []int{1, 0}, 6}, {tasks(1, 0), []int{0}, 0}, {tasks(9, 9), []int{0}, 81}, {tasks(4, 1), []int{0}, 4}, {tasks(1, 4), []int{0}, 4},
		{sameTasks(6, 9, 9), []int{5, 4, 3, 2, 1, 0}, 1701}, {sameTasks(6, 1, 1), []int{0, 1, 2, 3, 4, 5}, 21}, {sameTasks(6, 9, 0), []int{3, 4, 5, 0, 1, 2}, 0},
		{three, nil, -1}, {three, []int{}, -1}, {three, []int{0, 1}, -1}, {three, []int{0, 1, 2, 3}, -1}, {three, []int{0, 1, 1}, -1}, {three, []int{1, 2, 3}, -1}, {three, []int{0, 1, -1}, -1}, {tasks(1, 0), []int{1}, -1}, {tasks(1, 0), nil, -1},
		{nil, nil, -1}, {nil, []int{0}, -1}, {[]impl.Task{}, []int{}, -1}, {sameTasks(7, 1, 1), []int{0, 1, 2, 3, 4, 5, 6}, -1}, {tasks(0, 1), []int{0}, -1}, {tasks(10, 1), []int{0}, -1}, {tasks(1, -1), []int{0}, -1}, {tasks(1, 10), []int{0}, -1}, {tasks(1, 1, 2, 10), []int{1, 0}, -1},
	}
	for _, c := range cases {
		if got := impl.WeightedSum(c.all, c.order); got != c.sum {
			t.Errorf("WeightedSum(%v, %v) is %d, not %d", c.all, c.order, got, c.sum)
		}
	}
	for _, all := range goodTasks() {
		for _, order := range ordersOfSo(len(all)) {
			checkWeighted(t, all, order)
		}
	}
}

func checkWeighted(t *testing.T, all []impl.Task, order []int) {
	t.Helper()
	sum := impl.WeightedSum(all, order)
	if sum != weightedByWords(all, order) {
		t.Fatalf("WeightedSum(%v, %v) is %d, not %d", all, order, sum, weightedByWords(all, order))
	}
	for at := range len(order) - 1 {
		first, second := all[order[at]], all[order[at+1]]
		swapped, ok := impl.SwappedAt(order, at)
		got := impl.WeightedSum(all, swapped)
		if !ok || got != sum+first.Weight*second.Need-second.Weight*first.Need {
			t.Fatalf("WeightedSum(%v, %v) is %d, and exchanged at %d, as %v, %d", all, order, sum, at, swapped, got)
		}
	}
}

func TestPromise32WeightedSumOfOthers(t *testing.T) {
	refused := func(all []impl.Task, order []int) {
		t.Helper()
		if got := impl.WeightedSum(all, order); got != -1 {
			t.Fatalf("WeightedSum(%v, %v) is %d, not -1", all, order, got)
		}
	}
	for _, all := range append(moreTasks(), tasks(1, 0), tasks(9, 9), tasks(2, 3, 3, 2)) {
		for _, row := range noOrdersOf(len(all)) {
			refused(all, row)
		}
	}
	for _, all := range badTasks() {
		for _, row := range [][]int{nil, {0}, {0, 1, 2}, {2, 1, 0, 3, 4, 5}, countedTo(len(all))} {
			refused(all, row)
		}
	}
}

// ratioCase has what ByRatio and LeastWeighted are for tasks.
type ratioCase struct {
	all   []impl.Task
	order []int
	least int
}

func ratioCases() []ratioCase {
	return []ratioCase{
		{tasks(3, 1, 1, 1, 2, 4), []int{2, 1, 0}, 17}, {tasks(1, 0), []int{0}, 0}, {tasks(9, 9), []int{0}, 81}, {tasks(7, 3), []int{0}, 21},
		{tasks(3, 1, 1, 1, 2, 1), []int{1, 2, 0}, 10}, {tasks(2, 1, 2, 9, 2, 5), []int{1, 2, 0}, 44},
		{tasks(5, 3, 8, 5), []int{1, 0}, 79}, {tasks(9, 7, 8, 6), []int{0, 1}, 165}, {tasks(8, 6, 9, 7), []int{1, 0}, 165},
		{tasks(5, 0, 2, 3), []int{1, 0}, 6}, {tasks(1, 0, 9, 1), []int{1, 0}, 9}, {tasks(9, 1, 1, 0), []int{0, 1}, 9},
		{tasks(3, 0, 1, 0, 2, 0), []int{0, 1, 2}, 0}, {tasks(9, 0, 1, 0), []int{0, 1}, 0}, {sameTasks(6, 9, 0), []int{0, 1, 2, 3, 4, 5}, 0},
		{tasks(2, 4, 1, 2, 3, 6), []int{0, 1, 2}, 50}, {tasks(1, 2, 3, 6, 2, 4), []int{0, 1, 2}, 50}, {tasks(9, 9, 1, 1, 4, 4), []int{0, 1, 2}, 147},
		{tasks(1, 0, 4, 2, 2, 1, 9, 0, 6, 3, 1, 9), []int{5, 1, 2, 4, 0, 3}, 65},
		{sameTasks(6, 2, 3), []int{0, 1, 2, 3, 4, 5}, 126}, {sameTasks(6, 9, 9), []int{0, 1, 2, 3, 4, 5}, 1701}, {tasks(9, 1, 7, 2, 5, 3, 4, 5, 2, 7, 1, 9), []int{5, 4, 3, 2, 1, 0}, 167},
		{nil, nil, -1}, {[]impl.Task{}, nil, -1}, {sameTasks(7, 1, 0), nil, -1}, {tasks(0, 1), nil, -1}, {tasks(10, 1), nil, -1}, {tasks(1, -1), nil, -1}, {tasks(1, 10), nil, -1}, {tasks(3, 1, 1, 1, 0, 4), nil, -1}, {tasks(3, 1, 1, 10, 2, 4), nil, -1},
	}
}

// Promise 33: least needs for the weight are first.
func TestPromise33ByRatio(t *testing.T) {
	for _, c := range ratioCases() {
		if got := impl.ByRatio(c.all); !slices.Equal(got, c.order) {
			t.Errorf("ByRatio(%v) is %v, not %v", c.all, got, c.order)
		}
	}
	for _, all := range goodTasks() {
		checkByRatio(t, all)
	}
	for _, all := range badTasks() {
		if got := impl.ByRatio(all); len(got) != 0 {
			t.Fatalf("ByRatio(%v) is %v, not nil", all, got)
		}
	}
}

func checkByRatio(t *testing.T, all []impl.Task) {
	t.Helper()
	order := impl.ByRatio(all)
	if !impl.EachOnce(order, len(all)) || !eachOnceByWords(order, len(all)) {
		t.Fatalf("ByRatio(%v) is %v", all, order)
	}
	for i, b := range order {
		for _, a := range order[:i] {
			x, y := all[a].Need*all[b].Weight, all[b].Need*all[a].Weight
			if x > y || x == y && a > b {
				t.Fatalf("ByRatio(%v) is %v: %d ought not to be ahead of %d", all, order, a, b)
			}
		}
	}
	if sum := impl.WeightedSum(all, order); sum != leastByWords(all) || sum != impl.LeastWeighted(all) {
		t.Fatalf("ByRatio(%v) is %v, with the sum %d; the least one is %d, LeastWeighted %d", all, order, sum, leastByWords(all), impl.LeastWeighted(all))
	}
}

// Promise 34: no task is done for nothing.
func TestPromise34LeastWeighted(t *testing.T) {
	for _, c := range ratioCases() {
		if got := impl.LeastWeighted(c.all); got != c.least {
			t.Errorf("LeastWeighted(%v) is %d, not %d", c.all, got, c.least)
		}
	}
	for _, all := range goodTasks() {
		checkLeastWeighted(t, all)
	}
	for _, all := range badTasks() {
		if got := impl.LeastWeighted(all); got != -1 {
			t.Fatalf("LeastWeighted(%v) is %d, not -1", all, got)
		}
	}
}

func checkLeastWeighted(t *testing.T, all []impl.Task) {
	t.Helper()
	least, alone, weights := impl.LeastWeighted(all), 0, 0
	for _, one := range all {
		alone += one.Weight * one.Need
		weights += one.Weight
	}
	if least != leastByWords(all) || least < alone || weights == 0 && least != 0 {
		t.Fatalf("LeastWeighted(%v) is %d, not %d; each task alone has %d", all, least, leastByWords(all), alone)
	}
	without := slices.Clone(all)
	for at := range without {
		without[at].Weight = 0
	}
	if got := impl.LeastWeighted(without); got != 0 {
		t.Fatalf("LeastWeighted(%v) is %d, not 0", without, got)
	}
	if got := impl.LeastWeighted(reversed(all)); got != least {
		t.Fatalf("LeastWeighted(%v) is %d, and %d from the last one on", all, least, got)
	}
}

// Promise 35: exchanged twice it is as before.
func TestPromise35SwappedAt(t *testing.T) {
	six := []int{0, 1, 2, 3, 4, 5}
	cases := []struct {
		order   []int
		at      int
		swapped []int
		ok      bool
	}{
		{[]int{2, 0, 1}, 0, []int{0, 2, 1}, true}, {[]int{2, 0, 1}, 1, []int{2, 1, 0}, true}, {[]int{0, 1}, 0, []int{1, 0}, true}, {six, 0, []int{1, 0, 2, 3, 4, 5}, true}, {six, 4, []int{0, 1, 2, 3, 5, 4}, true},
		{[]int{2, 0, 1}, 2, nil, false}, {[]int{2, 0, 1}, 3, nil, false}, {[]int{2, 0, 1}, -1, nil, false}, {[]int{2, 0, 1}, math.MinInt, nil, false}, {[]int{2, 0, 1}, math.MaxInt, nil, false},
		{[]int{0}, 0, nil, false}, {[]int{0}, -1, nil, false}, {[]int{0}, 1, nil, false}, {six, 5, nil, false}, {six, 6, nil, false}, {[]int{0, 1}, 1, nil, false},
		{nil, 0, nil, false}, {nil, -1, nil, false}, {nil, -2, nil, false}, {[]int{}, 0, nil, false}, {[]int{0, 0}, 0, nil, false}, {[]int{1, 2}, 0, nil, false}, {[]int{-1, 0}, 0, nil, false}, {[]int{0, 1, 1}, 0, nil, false}, {append(six, 6), 0, nil, false}, {[]int{0, math.MaxInt}, 0, nil, false},
	}
	for _, c := range cases {
		if swapped, ok := impl.SwappedAt(c.order, c.at); ok != c.ok || !slices.Equal(swapped, c.swapped) {
			t.Errorf("SwappedAt(%v, %d) is %v, %v, not %v, %v", c.order, c.at, swapped, ok, c.swapped, c.ok)
		}
	}
	for many := 1; many <= 6; many++ {
		for _, order := range ordersOfSo(many) {
			for at := range many - 1 {
				checkSwapped(t, order, at)
			}
		}
	}
}

func checkSwapped(t *testing.T, order []int, at int) {
	t.Helper()
	swapped, ok := impl.SwappedAt(order, at)
	if !ok || !impl.EachOnce(swapped, len(order)) || swapped[at] != order[at+1] || swapped[at+1] != order[at] {
		t.Fatalf("SwappedAt(%v, %d) is %v, %v", order, at, swapped, ok)
	}
	for i := range order {
		if i != at && i != at+1 && swapped[i] != order[i] {
			t.Fatalf("SwappedAt(%v, %d) is %v", order, at, swapped)
		}
	}
	if again, ok := impl.SwappedAt(swapped, at); !ok || !slices.Equal(again, order) {
		t.Fatalf("SwappedAt(%v, %d) is %v, %v, not %v", swapped, at, again, ok, order)
	}
}

func TestPromise35SwappedAtOfOthers(t *testing.T) {
	refused := func(row []int, at int) {
		t.Helper()
		if swapped, ok := impl.SwappedAt(row, at); ok || len(swapped) != 0 {
			t.Fatalf("SwappedAt(%v, %d) is %v, %v", row, at, swapped, ok)
		}
	}
	for many := 1; many <= 6; many++ {
		for _, order := range ordersOfSo(many) {
			for _, at := range append(pastPlaces(many), many-1) {
				refused(order, at)
			}
		}
		for _, row := range noOrdersOf(many) {
			if eachOnceByWords(row, len(row)) {
				continue
			}
			for at := -1; at <= len(row); at++ {
				refused(row, at)
			}
		}
	}
}

// A general rule: arguments are never written to, whether they are tasks and orders or not.
func TestWeightsArgumentsAreNotWrittenTo(t *testing.T) {
	for _, all := range append(goodTasks(), badTasks()...) {
		many := min(len(all), 7)
		orders := append(noOrdersOf(many)[:9], countedTo(many), reversed(countedTo(many)))
		for _, order := range orders {
			tasksUntouched(t, all, order, func(part []impl.Task, row []int) {
				impl.EachOnce(row, many)
				impl.WeightedSum(part, row)
				for _, at := range []int{-1, 0, many - 2, many - 1} {
					swapped, _ := impl.SwappedAt(row, at)
					scribbled(swapped, -7)
				}
			})
		}
		rowUntouched(t, all, tasks(1, 2, 3, 4), func(part []impl.Task) {
			impl.TasksOk(part)
			impl.LeastWeighted(part)
			scribbled(impl.ByRatio(part), -7)
		})
	}
}

// A general rule: results share no memory with an argument or with each other.
func TestWeightsResultsAreNew(t *testing.T) {
	all, order := tasks(3, 1, 1, 1, 2, 4), []int{2, 0, 1}
	first := impl.ByRatio(all)
	scribbled(impl.ByRatio(all), -7)
	if !slices.Equal(first, []int{2, 1, 0}) || !slices.Equal(impl.ByRatio(all), []int{2, 1, 0}) {
		t.Errorf("the order is %v, and then %v", first, impl.ByRatio(all))
	}
	swapped, _ := impl.SwappedAt(order, 0)
	other, _ := impl.SwappedAt(order, 0)
	scribbled(other, -7)
	order[2] = -7
	if !slices.Equal(swapped, []int{0, 2, 1}) {
		t.Errorf("exchanged it became %v", swapped)
	}
	order[2] = 1
	scribbled(swapped, -7)
	if again, ok := impl.SwappedAt(order, 0); !ok || !slices.Equal(again, []int{0, 2, 1}) || !slices.Equal(order, []int{2, 0, 1}) {
		t.Errorf("exchanged it is then %v, %v, of %v", again, ok, order)
	}
}

// A general rule: no call leaves anything for the next one.
func TestWeightsSameAgain(t *testing.T) {
	sameForAll(t, append(goodTasks(), badTasks()...), func(all []impl.Task) []int {
		order := impl.ByRatio(all)
		swapped, _ := impl.SwappedAt(order, 0)
		return append(swapped, impl.LeastWeighted(all), impl.WeightedSum(all, order), impl.WeightedSum(all, swapped))
	})
}
