package tests

import (
	"math"
	"slices"
	"testing"

	"loop.example/onecounter/impl"
)

// tasks makes tasks of pairs: what one needs, and its weight.
func tasks(pairs ...int) []impl.Task {
	var all []impl.Task
	for i := 0; i+1 < len(pairs); i += 2 {
		all = append(all, impl.Task{Need: pairs[i], Weight: pairs[i+1]})
	}
	return all
}

// sameTasks makes so many tasks that are alike.
func sameTasks(many, need, weight int) []impl.Task {
	return slices.Repeat(tasks(need, weight), many)
}

// tasksByWords tells tasks by the words of the document, and not by the program.
func tasksByWords(all []impl.Task) bool {
	for _, one := range all {
		if one.Need < 1 || one.Need > 9 || one.Weight < 0 || one.Weight > 9 {
			return false
		}
	}
	return len(all) > 0 && len(all) < 7
}

func reversed[T any](row []T) []T {
	back := slices.Clone(row)
	slices.Reverse(back)
	return back
}

// pairsOfTasks has each task alone, and each two tasks, one of them with a need and a weight for each ratio and for many equal ones.
func pairsOfTasks() [][]impl.Task {
	var one []impl.Task
	for need := 1; need <= 9; need++ {
		for weight := 0; weight <= 9; weight++ {
			one = append(one, impl.Task{Need: need, Weight: weight})
		}
	}
	var lists [][]impl.Task
	for _, a := range one {
		lists = append(lists, []impl.Task{a})
		for _, b := range one {
			lists = append(lists, []impl.Task{a, b})
		}
	}
	return lists
}

// moreTasks has tasks of each number from three on, told by a fixed rule: any ones, ones with few weights, of few needs, of few equal ratios, and without weights.
func moreTasks() [][]impl.Task {
	next := numbersFrom(7)
	kinds := []func() impl.Task{
		func() impl.Task { return impl.Task{Need: 1 + next(9), Weight: next(10)} },
		func() impl.Task { return impl.Task{Need: 1 + next(9), Weight: next(2)} },
		func() impl.Task { return impl.Task{Need: 1 + next(2), Weight: next(3)} },
		func() impl.Task {
			times := 1 + next(3)
			return impl.Task{Need: (1 + next(2)) * times, Weight: 3 * times}
		},
		func() impl.Task { return impl.Task{Need: 1 + next(9)} },
	}
	var lists [][]impl.Task
	for many := 3; many <= 6; many++ {
		for _, kind := range kinds {
			for range 25 {
				var all []impl.Task
				for range many {
					all = append(all, kind())
				}
				lists = append(lists, all)
			}
		}
		lists = append(lists, sameTasks(many, 1, 0), sameTasks(many, 9, 0), sameTasks(many, 1, 9), sameTasks(many, 9, 9), sameTasks(many, 4, 1))
	}
	return lists
}

func goodTasks() [][]impl.Task {
	return append(pairsOfTasks(), moreTasks()...)
}

// badTasks has tasks that are none for one reason each, and some for more.
func badTasks() [][]impl.Task {
	lists := [][]impl.Task{nil, {}, sameTasks(7, 1, 0), sameTasks(7, 9, 9), sameTasks(8, 3, 3), sameTasks(100, 1, 1), tasks(0, 10), tasks(-1, -1)}
	numbers := []int{math.MinInt, -1, 10, math.MaxInt}
	for many := 1; many <= 6; many++ {
		for at := range many {
			for _, number := range append(numbers, 0) {
				all := sameTasks(many, 5, 3)
				all[at].Need = number
				lists = append(lists, all)
			}
			for _, number := range numbers {
				all := sameTasks(many, 5, 3)
				all[at].Weight = number
				lists = append(lists, all)
			}
		}
	}
	return lists
}

// eachOnceByWords counts how often each number is there.
func eachOnceByWords(row []int, many int) bool {
	if many < 1 || many > 6 || len(row) != many {
		return false
	}
	for number := range many {
		times := 0
		for _, x := range row {
			if x == number {
				times++
			}
		}
		if times != 1 {
			return false
		}
	}
	return true
}

// allRows has all rows of so many numbers from least up to greatest.
func allRows(long, least, greatest int) [][]int {
	rows := [][]int{{}}
	for range long {
		var longer [][]int
		for _, row := range rows {
			for number := least; number <= greatest; number++ {
				longer = append(longer, append(slices.Clone(row), number))
			}
		}
		rows = longer
	}
	return rows
}

// ordersOfSo has all orders of so many: the last number stands at each place of each order of one less.
func ordersOfSo(many int) [][]int {
	if many == 0 {
		return [][]int{{}}
	}
	var orders [][]int
	for _, order := range ordersOfSo(many - 1) {
		for at := range many {
			orders = append(orders, slices.Insert(slices.Clone(order), at, many-1))
		}
	}
	return orders
}

// countedTo has each number below a bound, in order.
func countedTo(many int) []int {
	row := []int{}
	for number := range many {
		row = append(row, number)
	}
	return row
}

// noOrdersOf has rows that are no orders of so many: with a number twice or not at all, with one out of its bounds, and orders of fewer or of more.
func noOrdersOf(many int) [][]int {
	rows := [][]int{nil, {}, {-1}, {0, 0}, {math.MinInt}, {math.MaxInt}, {0, 1, 2, 3, 4, 5, 6}, slices.Repeat([]int{0}, 50)}
	for fewer := range 7 {
		if fewer != many {
			rows = append(rows, countedTo(fewer), reversed(countedTo(fewer)))
		}
	}
	for at := range many {
		for _, number := range []int{math.MinInt, -1, many, many + 1, math.MaxInt} {
			row := countedTo(many)
			row[at] = number
			rows = append(rows, row)
		}
	}
	for at := range many - 1 {
		row := countedTo(many)
		row[at+1] = row[at]
		rows = append(rows, row, append(countedTo(many), at))
	}
	return rows
}

// tasksUntouched calls with a part of a longer list of tasks and a part of a longer order, and reports it if any of either is written to.
func tasksUntouched(t *testing.T, all []impl.Task, order []int, call func(part []impl.Task, row []int)) {
	t.Helper()
	rowUntouched(t, all, tasks(1, 2, 3, 4), func(part []impl.Task) {
		rowUntouched(t, order, []int{6, 0, -1}, func(row []int) { call(part, row) })
	})
}

func TestTasksAreWhatTheyShouldBe(t *testing.T) {
	zero, equal := 0, 0
	for _, all := range goodTasks() {
		if !tasksByWords(all) {
			t.Fatalf("not good: %v", all)
		}
		if all[0].Weight == 0 {
			zero++
		}
		if len(all) > 2 && all[0] != all[1] && all[0].Weight > 0 && all[0].Need*all[1].Weight == all[1].Need*all[0].Weight {
			equal++
		}
	}
	if zero < 500 || equal < 20 {
		t.Fatalf("%d lists with a weight of 0, %d of three or more with equal ratios", zero, equal)
	}
	for _, all := range badTasks() {
		if tasksByWords(all) {
			t.Fatalf("not bad: %v", all)
		}
	}
}

func TestRowsAreWhatTheyShouldBe(t *testing.T) {
	for many, so := range []int{1, 1, 2, 6, 24, 120, 720} {
		if got := len(ordersOfSo(many)); got != so {
			t.Fatalf("%d orders of %d, not %d", got, many, so)
		}
		for _, row := range noOrdersOf(many) {
			if eachOnceByWords(row, many) {
				t.Fatalf("an order of %d: %v", many, row)
			}
		}
	}
}
