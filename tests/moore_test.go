package tests

import (
	"math"
	"slices"
	"testing"

	"loop.example/g00527/impl"
)

// mostTaskNeed and lastTaskEnd are the greatest Need and the greatest End of a task.
const (
	mostTaskNeed = 20
	lastTaskEnd  = 200
)

func task(need, end int) impl.Task {
	return impl.Task{Need: need, End: end}
}

// endOrder, doneAt, mooreTurns and ofAllOrders are written apart from the program, to be held against it.
func endOrder(l []impl.Task) []int {
	var order []int
	for end := range lastTaskEnd + 1 {
		for k, x := range l {
			if x.End == end {
				order = append(order, k)
			}
		}
	}
	return order
}

// doneAt adds up, for each task, all that stand up to it.
func doneAt(l []impl.Task, order []int) []int {
	var done []int
	for k := range l {
		sum := 0
		for _, other := range order[:slices.Index(order, k)+1] {
			sum += l[other].Need
		}
		done = append(done, sum)
	}
	return done
}

// latesIn tells how many are late in an order, and by how much at most.
func latesIn(l []impl.Task, order []int) (int, int) {
	many, most := 0, 0
	for k, done := range doneAt(l, order) {
		if done > l[k].End {
			many++
		}
		if k == 0 || done-l[k].End > most {
			most = done - l[k].End
		}
	}
	return many, most
}

// mooreTurns strikes out of the order by ends, and finds the longest from the back.
func mooreTurns(l []impl.Task) ([]int, int) {
	order := endOrder(l)
	struck := make([]bool, len(l))
	var out []int
	for at, k := range order {
		sum, longest := 0, -1
		for back := at; back >= 0; back-- {
			other := order[back]
			if struck[other] {
				continue
			}
			sum += l[other].Need
			if longest == -1 || l[other].Need >= l[longest].Need {
				longest = other
			}
		}
		if sum > l[k].End {
			struck[longest] = true
			out = append(out, longest)
		}
	}
	var turns []int
	for _, k := range order {
		if !struck[k] {
			turns = append(turns, k)
		}
	}
	return append(turns, out...), len(turns)
}

// ofAllOrders goes through every order and tells the most in time, and the least of the greatest latenesses.
func ofAllOrders(l []impl.Task) (int, int) {
	most, least := 0, math.MaxInt
	used := make([]bool, len(l))
	var from func(left, at, inTime, late int)
	from = func(left, at, inTime, late int) {
		if left == 0 {
			most, least = max(most, inTime), min(least, late)
			return
		}
		for k, x := range l {
			if used[k] {
				continue
			}
			used[k] = true
			done := at + x.Need
			if done <= x.End {
				from(left-1, done, inTime+1, max(late, done-x.End))
			} else {
				from(left-1, done, inTime, max(late, done-x.End))
			}
			used[k] = false
		}
	}
	from(len(l), 0, 0, math.MinInt)
	if len(l) == 0 {
		least = 0
	}
	return most, least
}

// shakenTasks have Needs of at most need and Ends of at most end.
func shakenTasks(many, need, end, seed int) []impl.Task {
	next := shaker(seed)
	var l []impl.Task
	for range many {
		l = append(l, task(1+next(need), next(end+1)))
	}
	return l
}

// taskLists are shaken lists of every length from least to most, crowded ones, roomy ones and ones with much alike.
func taskLists(least, most, each int) [][]impl.Task {
	var lists [][]impl.Task
	for many := least; many <= most; many++ {
		for seed := range each {
			lists = append(lists,
				shakenTasks(many, mostTaskNeed, lastTaskEnd, seed),
				shakenTasks(many, mostTaskNeed, 8*many, seed),
				shakenTasks(many, 6, 3*many, seed),
				shakenTasks(many, 2, many+2, seed))
		}
	}
	return lists
}

// smallTaskLists are all lists of at most 3 tasks with Needs up to 3 and Ends up to 5.
func smallTaskLists() [][]impl.Task {
	lists := [][]impl.Task{nil}
	for at := 0; len(lists[at]) < 3; at++ {
		for need := 1; need <= 3; need++ {
			for end := range 6 {
				lists = append(lists, append(slices.Clone(lists[at]), task(need, end)))
			}
		}
	}
	return lists
}

// shakenOrder has each number below many once.
func shakenOrder(many, seed int) []int {
	next := shaker(seed)
	var order []int
	for k := range many {
		order = slices.Insert(order, next(k+1), k)
	}
	return order
}

func wantOrder(t *testing.T, what string, got []int, ok bool, want []int) {
	t.Helper()
	if !ok || !slices.Equal(got, want) {
		t.Errorf("%s: %v, %t, not %v", what, got, ok, want)
	}
}

func wantMoore(t *testing.T, what string, l []impl.Task, order []int, inTime int) {
	t.Helper()
	got, n, ok := impl.MooreOrder(l)
	wantOrder(t, what+", MooreOrder", got, ok, order)
	if n != inTime {
		t.Errorf("%s, MooreOrder of %v: %d in time, not %d", what, l, n, inTime)
	}
	if best, ok := impl.BestMany(l); best != inTime || !ok {
		t.Errorf("%s, BestMany of %v: %d, %t, not %d", what, l, best, ok, inTime)
	}
	if late, ok := impl.LateMany(l, order); late != len(l)-inTime || !ok {
		t.Errorf("%s, LateMany of %v, %v: %d, %t, not %d", what, l, order, late, ok, len(l)-inTime)
	}
}

func wantLates(t *testing.T, l []impl.Task, order []int, many, most int) {
	t.Helper()
	if n, ok := impl.LateMany(l, order); n != many || !ok {
		t.Errorf("LateMany(%v, %v): %d, %t, not %d", l, order, n, ok, many)
	}
	if n, ok := impl.LatenessOf(l, order); n != most || !ok {
		t.Errorf("LatenessOf(%v, %v): %d, %t, not %d", l, order, n, ok, most)
	}
}

func TestLimitOfTasks(t *testing.T) {
	if impl.MaxTasks != 10 {
		t.Error(impl.MaxTasks)
	}
}

func TestEveryTaskWithinItsLimitsIsGood(t *testing.T) {
	for need := -2; need <= mostTaskNeed+2; need++ {
		for end := -2; end <= lastTaskEnd+2; end++ {
			want := need >= 1 && need <= 20 && end >= 0 && end <= 200
			if impl.GoodTasks([]impl.Task{task(need, end)}) != want {
				t.Errorf("GoodTasks of %d, %d: %t", need, end, !want)
			}
		}
	}
	for _, l := range append(taskLists(0, impl.MaxTasks, 20), smallTaskLists()...) {
		if !impl.GoodTasks(l) {
			t.Errorf("GoodTasks(%v)", l)
		}
	}
}

func TestOrdersByEnd(t *testing.T) {
	for _, x := range []struct {
		what  string
		tasks []impl.Task
		order []int
	}{
		{"none", nil, nil},
		{"one", []impl.Task{task(3, 7)}, []int{0}},
		{"rising", []impl.Task{task(9, 1), task(1, 2), task(5, 3)}, []int{0, 1, 2}},
		{"falling", []impl.Task{task(1, 3), task(1, 2), task(1, 0)}, []int{2, 1, 0}},
		{"all alike", []impl.Task{task(4, 8), task(4, 8), task(4, 8), task(4, 8)}, []int{0, 1, 2, 3}},
		{"of alike Ends the first, whatever the Needs", []impl.Task{task(9, 8), task(1, 8), task(5, 8), task(2, 0)}, []int{3, 0, 1, 2}},
		{"the least and the greatest End", []impl.Task{task(1, 200), task(1, 0), task(1, 200), task(1, 0)}, []int{1, 3, 0, 2}},
		{"by numbers, not by digits", []impl.Task{task(1, 100), task(1, 20), task(1, 9)}, []int{2, 1, 0}},
	} {
		order, ok := impl.ByEnd(x.tasks)
		wantOrder(t, x.what, order, ok, x.order)
	}
	for _, l := range append(taskLists(0, impl.MaxTasks, 40), smallTaskLists()...) {
		order, ok := impl.ByEnd(l)
		wantOrder(t, "ByEnd", order, ok, endOrder(l))
	}
}

func TestDoneOneBehindTheOther(t *testing.T) {
	l := []impl.Task{task(3, 5), task(1, 4), task(6, 10)}
	for _, x := range []struct {
		order      []int
		done       []int
		late, most int
	}{
		{[]int{0, 1, 2}, []int{3, 4, 10}, 0, 0},
		{[]int{1, 0, 2}, []int{4, 1, 10}, 0, 0},
		{[]int{0, 2, 1}, []int{3, 10, 9}, 1, 6},
		{[]int{2, 0, 1}, []int{9, 10, 6}, 2, 6},
		{[]int{2, 1, 0}, []int{10, 7, 6}, 2, 5},
		{[]int{1, 2, 0}, []int{10, 1, 7}, 1, 5},
	} {
		done, ok := impl.CompletionsOf(l, x.order)
		wantOrder(t, "CompletionsOf", done, ok, x.done)
		wantLates(t, l, x.order, x.late, x.most)
	}
}

func TestLateIsBehindTheEnd(t *testing.T) {
	for _, x := range []struct {
		need, end, late, most int
	}{
		{5, 5, 0, 0}, {5, 4, 1, 1}, {5, 6, 0, -1}, {1, 0, 1, 1}, {20, 0, 1, 20}, {1, 1, 0, 0}, {1, 200, 0, -199}, {20, 200, 0, -180}, {20, 20, 0, 0}, {20, 19, 1, 1},
	} {
		l := []impl.Task{task(x.need, x.end)}
		wantLates(t, l, []int{0}, x.late, x.most)
		wantMoore(t, "one", l, []int{0}, 1-x.late)
	}
	two := []impl.Task{task(2, 9), task(3, 6)}
	wantLates(t, two, []int{0, 1}, 0, -1)
	wantLates(t, two, []int{1, 0}, 0, -3)
	wantLates(t, []impl.Task{task(2, 4), task(2, 3)}, []int{0, 1}, 1, 1)
	wantLates(t, []impl.Task{task(2, 4), task(2, 3)}, []int{1, 0}, 0, 0)
	wantLates(t, []impl.Task{task(1, 9), task(1, 0), task(1, 0)}, []int{0, 1, 2}, 2, 3)
}

func TestCompletionsInAnyOrder(t *testing.T) {
	below := 0
	for seed, l := range append(taskLists(0, impl.MaxTasks, 40), smallTaskLists()...) {
		for k := range 3 {
			order := shakenOrder(len(l), 3*seed+k)
			done, ok := impl.CompletionsOf(l, order)
			wantOrder(t, "CompletionsOf", done, ok, doneAt(l, order))
			many, most := latesIn(l, order)
			wantLates(t, l, order, many, most)
			if most < 0 {
				below++
			}
		}
	}
	if below < 50 {
		t.Error("too few have all earlier for these lists to tell anything:", below)
	}
}

func TestMooreTakesOutTheLongest(t *testing.T) {
	for _, x := range []struct {
		what   string
		tasks  []impl.Task
		order  []int
		inTime int
	}{
		{"none", nil, nil, 0},
		{"all in time", []impl.Task{task(2, 9), task(3, 3), task(1, 4)}, []int{1, 2, 0}, 3},
		{"just in time", []impl.Task{task(2, 2), task(3, 5), task(4, 9)}, []int{0, 1, 2}, 3},
		{"the last of them a unit late", []impl.Task{task(2, 2), task(3, 5), task(4, 8)}, []int{0, 1, 2}, 2},
		{"an earlier one is longer", []impl.Task{task(2, 2), task(5, 7), task(4, 10)}, []int{0, 2, 1}, 2},
		{"the first of them is longest", []impl.Task{task(6, 6), task(2, 7), task(2, 8)}, []int{1, 2, 0}, 2},
		{"of as long ones the first", []impl.Task{task(3, 3), task(3, 5), task(3, 6)}, []int{1, 2, 0}, 2},
		{"of as long ones the first by End, not by number", []impl.Task{task(3, 5), task(3, 3)}, []int{0, 1}, 1},
		{"of alike ones all but the last are taken out", []impl.Task{task(2, 2), task(2, 2), task(2, 2)}, []int{2, 0, 1}, 1},
		{"no End but 0", []impl.Task{task(2, 0), task(5, 0), task(1, 0)}, []int{0, 1, 2}, 0},
		{"an End of 0 among others", []impl.Task{task(4, 4), task(1, 0), task(2, 6)}, []int{0, 2, 1}, 2},
		{"taken out in turn, not by End", []impl.Task{task(4, 4), task(5, 6), task(3, 6)}, []int{2, 1, 0}, 1},
		{"taken out in turn, not by number", []impl.Task{task(3, 6), task(6, 7), task(4, 9), task(5, 5)}, []int{0, 2, 3, 1}, 2},
		{"taken out at the end of all", []impl.Task{task(10, 10), task(1, 11), task(1, 12), task(9, 12)}, []int{1, 2, 3, 0}, 3},
	} {
		wantMoore(t, x.what, x.tasks, x.order, x.inTime)
	}
}

func TestMooreStepByStep(t *testing.T) {
	apart := 0
	for _, l := range append(taskLists(0, impl.MaxTasks, 200), smallTaskLists()...) {
		order, inTime := mooreTurns(l)
		wantMoore(t, "step by step", l, order, inTime)
		out := order[inTime:]
		ends := slices.DeleteFunc(endOrder(l), func(k int) bool { return !slices.Contains(out, k) })
		if !slices.Equal(out, ends) {
			apart++
		}
	}
	if apart < 50 {
		t.Error("too few are taken out in another order than that by ends for these lists to tell anything:", apart)
	}
}

// wantBest holds Moore's order and that by ends against all orders.
func wantBest(t *testing.T, l []impl.Task) {
	t.Helper()
	most, least := ofAllOrders(l)
	moore, n, _ := impl.MooreOrder(l)
	if n != most {
		t.Errorf("MooreOrder(%v): %d in time, where %d can be", l, n, most)
	}
	if best, ok := impl.BestMany(l); best != most || !ok {
		t.Errorf("BestMany(%v): %d, %t, not %d", l, best, ok, most)
	}
	if late, ok := impl.LateMany(l, moore); late != len(l)-most || !ok {
		t.Errorf("late in Moore's order of %v: %d, %t, not %d", l, late, ok, len(l)-most)
	}
	ends, _ := impl.ByEnd(l)
	if late, ok := impl.LatenessOf(l, ends); late != least || !ok {
		t.Errorf("LatenessOf(%v) by ends: %d, %t, where %d can be", l, late, ok, least)
	}
}

func TestNoOrderHasMoreInTimeOrLessLateness(t *testing.T) {
	some, all := 0, 0
	for _, l := range append(taskLists(0, 6, 60), smallTaskLists()...) {
		wantBest(t, l)
		if most, _ := ofAllOrders(l); most == len(l) {
			all++
		} else if most > 0 {
			some++
		}
	}
	if some < 300 || all < 300 {
		t.Error("too few lists have some or all in time to tell anything:", some, all)
	}
	for _, l := range taskLists(7, 8, 4) {
		wantBest(t, l)
	}
}

func TestNoOrderOfTheMostTasksIsBetter(t *testing.T) {
	for _, l := range taskLists(impl.MaxTasks, impl.MaxTasks, 1) {
		wantBest(t, l)
	}
}

func TestMostTasks(t *testing.T) {
	var full, falling []impl.Task
	var order, back, done []int
	for k := range impl.MaxTasks {
		full = append(full, task(20, 20*k+20))
		falling = append(falling, task(20, lastTaskEnd-20*k))
		order = append(order, k)
		back = append(back, impl.MaxTasks-1-k)
		done = append(done, 20*k+20)
	}
	wantMoore(t, "all just in time", full, order, impl.MaxTasks)
	wantMoore(t, "all just in time, the last first", falling, back, impl.MaxTasks)
	wantLates(t, full, order, 0, 0)
	wantLates(t, full, back, 5, 180)
	got, ok := impl.CompletionsOf(full, order)
	wantOrder(t, "as many as can be", got, ok, done)
	got, ok = impl.ByEnd(falling)
	wantOrder(t, "as many as can be, by End", got, ok, back)
	full[9].End = 199
	wantMoore(t, "one too late", full, []int{1, 2, 3, 4, 5, 6, 7, 8, 9, 0}, 9)
	for k := range full {
		full[k] = task(20, 0)
	}
	wantMoore(t, "all late", full, order, 0)
	wantLates(t, full, order, 10, 200)
	for k := range full {
		full[k] = task(1, lastTaskEnd)
	}
	wantMoore(t, "all early", full, order, 10)
	wantLates(t, full, order, 0, -190)
}

var wrongTasks = []impl.Task{
	{}, task(0, 5), task(-1, 5), task(21, 5), task(21, 200), task(1, -1), task(20, -1), task(1, 201), task(20, 201), task(0, -1), task(21, 201), task(0, 201),
	task(math.MinInt, 5), task(math.MaxInt, 5), task(1, math.MinInt), task(1, math.MaxInt),
	task(math.MinInt, math.MinInt), task(math.MaxInt, math.MaxInt), task(math.MinInt, math.MaxInt), task(math.MaxInt, math.MinInt),
}

// wantNoTasks holds all that takes tasks to its zero answer at l.
func wantNoTasks(t *testing.T, l []impl.Task) {
	t.Helper()
	if impl.GoodTasks(l) {
		t.Errorf("GoodTasks(%v)", l)
	}
	if order, ok := impl.ByEnd(l); ok || len(order) != 0 {
		t.Errorf("ByEnd(%v): %v, %t", l, order, ok)
	}
	if order, n, ok := impl.MooreOrder(l); ok || n != 0 || len(order) != 0 {
		t.Errorf("MooreOrder(%v): %v, %d, %t", l, order, n, ok)
	}
	if n, ok := impl.BestMany(l); ok || n != 0 {
		t.Errorf("BestMany(%v): %d, %t", l, n, ok)
	}
	for _, order := range [][]int{nil, {0}, shakenOrder(len(l), 0), shakenOrder(impl.MaxTasks, 0)} {
		wantNoOrder(t, l, order)
	}
}

func wantNoOrder(t *testing.T, l []impl.Task, order []int) {
	t.Helper()
	if n, ok := impl.LatenessOf(l, order); ok || n != 0 {
		t.Errorf("LatenessOf(%v, %v): %d, %t", l, order, n, ok)
	}
	if n, ok := impl.LateMany(l, order); ok || n != 0 {
		t.Errorf("LateMany(%v, %v): %d, %t", l, order, n, ok)
	}
	if done, ok := impl.CompletionsOf(l, order); ok || len(done) != 0 {
		t.Errorf("CompletionsOf(%v, %v): %v, %t", l, order, done, ok)
	}
}

func TestWrongTasks(t *testing.T) {
	for _, x := range wrongTasks {
		for many := 1; many <= impl.MaxTasks; many++ {
			for at := range many {
				l := shakenTasks(many, mostTaskNeed, lastTaskEnd, at)
				l[at] = x
				wantNoTasks(t, l)
			}
		}
	}
}

func TestTooManyTasks(t *testing.T) {
	for _, many := range []int{impl.MaxTasks + 1, impl.MaxTasks + 2, 64, 1000} {
		wantNoTasks(t, shakenTasks(many, mostTaskNeed, lastTaskEnd, many))
		wantNoTasks(t, make([]impl.Task, many))
	}
}

func TestOrdersThatAreNone(t *testing.T) {
	for many := range impl.MaxTasks + 1 {
		l := shakenTasks(many, mostTaskNeed, lastTaskEnd, many)
		order := shakenOrder(many, many)
		wantNoOrder(t, l, append(slices.Clone(order), 0))
		wantNoOrder(t, l, append(slices.Clone(order), many))
		if many > 0 {
			wantNoOrder(t, l, slices.Concat(order, order))
		}
		wantNoOrder(t, l, make([]int, 1000))
		for at := range order {
			wantNoOrder(t, l, slices.Delete(slices.Clone(order), at, at+1))
			wantNoOrder(t, l, order[:at])
			for _, k := range []int{-1, -2, -many, many, many + 1, math.MinInt, math.MaxInt} {
				wrong := slices.Clone(order)
				wrong[at] = k
				wantNoOrder(t, l, wrong)
			}
			for other := range order {
				if other != at {
					wrong := slices.Clone(order)
					wrong[at] = order[other]
					wantNoOrder(t, l, wrong)
				}
			}
		}
	}
}

// hiddenTask and hiddenNumber stand behind the lists' lengths.
var hiddenTask = task(-7, -7)

const hiddenNumber = -77

func TestTasksAreNotWrittenInto(t *testing.T) {
	lists := append(taskLists(0, impl.MaxTasks, 15), smallTaskLists()...)
	lists = append(lists, wrongTasks[:1], []impl.Task{task(2, 9), task(1, 3), wrongTasks[1]}, shakenTasks(impl.MaxTasks+1, 5, 50, 1))
	for seed, were := range lists {
		l := withHidden(were, hiddenTask)
		ends, _ := impl.ByEnd(l)
		wrecked(t, "ByEnd", ends, hiddenNumber)
		wantUnchanged(t, "ByEnd", l, were, hiddenTask)
		moore, _, _ := impl.MooreOrder(l)
		wrecked(t, "MooreOrder", moore, hiddenNumber)
		wantUnchanged(t, "MooreOrder", l, were, hiddenTask)
		for _, wereOrder := range [][]int{shakenOrder(len(l), seed), nil, {1, 0}, {0, 0}, {-1}} {
			order := withHidden(wereOrder, hiddenNumber)
			done, _ := impl.CompletionsOf(l, order)
			wrecked(t, "CompletionsOf", done, hiddenNumber)
			impl.LatenessOf(l, order)
			impl.LateMany(l, order)
			wantUnchanged(t, "what takes an order, the order", order, wereOrder, hiddenNumber)
			wantUnchanged(t, "what takes an order, the tasks", l, were, hiddenTask)
		}
		impl.GoodTasks(l)
		impl.BestMany(l)
		wantUnchanged(t, "the asking ones", l, were, hiddenTask)
	}
}

func TestTasksBehindAListAreNotRead(t *testing.T) {
	for seed, were := range taskLists(0, impl.MaxTasks, 15) {
		l := withHidden(were, hiddenTask)
		order, inTime := mooreTurns(were)
		wantMoore(t, "with tasks behind the list", l, order, inTime)
		ends, ok := impl.ByEnd(l)
		wantOrder(t, "ByEnd", ends, ok, endOrder(were))
		wereOrder := shakenOrder(len(l), seed)
		given := withHidden(wereOrder, hiddenNumber)
		done, ok := impl.CompletionsOf(l, given)
		wantOrder(t, "CompletionsOf", done, ok, doneAt(were, wereOrder))
		many, most := latesIn(were, wereOrder)
		wantLates(t, l, given, many, most)
		if len(l) > 0 {
			// What is missing stands just behind the length.
			wantNoOrder(t, l, slices.Clone(wereOrder)[:len(l)-1])
		}
	}
}

func TestNilAndEmptyListsOfTasksAreTheSame(t *testing.T) {
	for _, l := range [][]impl.Task{nil, {}, withHidden[impl.Task](nil, hiddenTask)} {
		if !impl.GoodTasks(l) {
			t.Error("no tasks are good")
		}
		ends, ok := impl.ByEnd(l)
		wantOrder(t, "no tasks, by End", ends, ok, nil)
		wantMoore(t, "no tasks", l, nil, 0)
		for _, order := range [][]int{nil, {}, withHidden[int](nil, hiddenNumber)} {
			wantLates(t, l, order, 0, 0)
			done, ok := impl.CompletionsOf(l, order)
			wantOrder(t, "no tasks, when they are done", done, ok, nil)
		}
		wantNoOrder(t, l, []int{0})
	}
}
