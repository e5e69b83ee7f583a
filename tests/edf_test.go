package tests

import (
	"math"
	"slices"
	"testing"

	"loop.example/g00527/impl"
)

// mostNeed is the greatest Need of a job.
const mostNeed = 6

func job(start, need, end int) impl.Job {
	return impl.Job{Start: start, Need: need, End: end}
}

// slotsFrom gives a list of MaxSlots: the jobs told, and -1 behind them.
func slotsFrom(jobs ...int) []int {
	slots := slices.Clone(jobs)
	for len(slots) < impl.MaxSlots {
		slots = append(slots, -1)
	}
	return slots
}

// nearestTurns, matched, fits and lateOnes are written apart from the program, to be held against it.
func nearestTurns(l []impl.Job) []int {
	var order []int
	for end := range impl.MaxSlots + 1 {
		for k, x := range l {
			if x.End == end {
				order = append(order, k)
			}
		}
	}
	slots := slotsFrom()
	for _, k := range order {
		// A nearer end is never kept waiting by a farther one: so the jobs may be laid one after the other.
		left := l[k].Need
		for at := l[k].Start; at < impl.MaxSlots && left > 0; at++ {
			if slots[at] == -1 {
				slots[at] = k
				left--
			}
		}
	}
	return slots
}

// matched looks for a slot for each unit of each job, moving others away where it must: a schedule with nothing late, where there is one at all.
func matched(l []impl.Job) ([]int, bool) {
	slots := slotsFrom()
	for k, x := range l {
		for range x.Need {
			if !placed(l, slots, k, make([]bool, impl.MaxSlots)) {
				return nil, false
			}
		}
	}
	return slots, true
}

func placed(l []impl.Job, slots []int, k int, tried []bool) bool {
	for at := l[k].Start; at < l[k].End; at++ {
		if tried[at] {
			continue
		}
		tried[at] = true
		if slots[at] == -1 || placed(l, slots, slots[at], tried) {
			slots[at] = k
			return true
		}
	}
	return false
}

func fits(l []impl.Job, slots []int) bool {
	many := make([]int, len(l))
	for at, k := range slots {
		if k == -1 {
			continue
		}
		many[k]++
		if at < l[k].Start || many[k] > l[k].Need {
			return false
		}
	}
	return true
}

func lateOnes(l []impl.Job, slots []int) []int {
	many := make([]int, len(l))
	for at, k := range slots {
		if k != -1 && at < l[k].End {
			many[k]++
		}
	}
	var late []int
	for k, x := range l {
		if many[k] < x.Need {
			late = append(late, k)
		}
	}
	return late
}

// unitsIn counts the jobs' units one by one.
func unitsIn(l []impl.Job, from, to int) int {
	units := 0
	for _, x := range l {
		for range x.Need {
			if from <= x.Start && x.End <= to {
				units++
			}
		}
	}
	return units
}

// overload looks at the whiles from the last one back, and keeps what it has seen last.
func overload(l []impl.Job) (int, int, bool) {
	first, behind, is := 0, 0, false
	for from := impl.MaxSlots - 1; from >= 0; from-- {
		for to := impl.MaxSlots; to > from; to-- {
			if unitsIn(l, from, to) > to-from {
				first, behind, is = from, to, true
			}
		}
	}
	return first, behind, is
}

// shaker gives numbers that look shaken: the same ones at each run.
func shaker(seed int) func(upto int) int {
	n := seed*7919 + 29
	return func(upto int) int {
		n = (n*1103515245 + 12345) % (1 << 31)
		return (n >> 8) % upto
	}
}

// shakenJobs have Needs of at most need, and ends that leave at most room behind them.
func shakenJobs(many, need, room, seed int) []impl.Job {
	next := shaker(seed)
	var l []impl.Job
	for range many {
		start, units := next(impl.MaxSlots), 1+next(need)
		l = append(l, job(start, units, min(impl.MaxSlots, start+units+next(room))))
	}
	return l
}

// jobLists are shaken lists of every length up to MaxJobs, some with much to be done, some with little.
func jobLists() [][]impl.Job {
	var lists [][]impl.Job
	for many := range impl.MaxJobs + 1 {
		for seed := range 60 {
			lists = append(lists, shakenJobs(many, mostNeed, 9, seed), shakenJobs(many, 3, 12, seed), shakenJobs(many, 2, 3, seed))
		}
	}
	return lists
}

// smallJobLists are all lists of at most 3 jobs that end by 3, and all of at most 2 that end by 5.
func smallJobLists() [][]impl.Job {
	var lists [][]impl.Job
	for _, x := range [][2]int{{3, 3}, {5, 2}} {
		at := len(lists)
		lists = append(lists, nil)
		for ; len(lists[at]) < x[1]; at++ {
			for start := range x[0] {
				for end := start + 1; end <= x[0]; end++ {
					for need := 1; need <= 3; need++ {
						lists = append(lists, append(slices.Clone(lists[at]), job(start, need, end)))
					}
				}
			}
		}
	}
	return lists
}

func wantSlots(t *testing.T, what string, got []int, ok bool, want []int) {
	t.Helper()
	if !ok || !slices.Equal(got, want) {
		t.Errorf("%s: %v, %t, not %v", what, got, ok, want)
	}
}

func wantJobs(t *testing.T, what string, got []impl.Job, ok bool, want []impl.Job) {
	t.Helper()
	if !ok || !slices.Equal(got, want) {
		t.Errorf("%s: %v, %t, not %v", what, got, ok, want)
	}
}

func wantMet(t *testing.T, l []impl.Job, want bool) {
	t.Helper()
	if met, ok := impl.CanMeet(l); met != want || !ok {
		t.Errorf("CanMeet(%v): %t, %t, not %t", l, met, ok, want)
	}
}

func wantOverload(t *testing.T, l []impl.Job, from, to int, is bool) {
	t.Helper()
	if f, b, i, ok := impl.FirstOverload(l); f != from || b != to || i != is || !ok {
		t.Errorf("FirstOverload(%v): %d, %d, %t, %t, not %d, %d, %t", l, f, b, i, ok, from, to, is)
	}
}

func TestLimitsOfJobs(t *testing.T) {
	if impl.MaxJobs != 8 || impl.MaxSlots != 24 {
		t.Error(impl.MaxJobs, impl.MaxSlots)
	}
}

func TestEveryJobWithinItsLimitsIsGood(t *testing.T) {
	for start := -2; start <= impl.MaxSlots+2; start++ {
		for need := -2; need <= mostNeed+2; need++ {
			for end := -2; end <= impl.MaxSlots+2; end++ {
				want := start >= 0 && start <= 23 && need >= 1 && need <= 6 && end > start && end <= 24
				if impl.GoodJobs([]impl.Job{job(start, need, end)}) != want {
					t.Errorf("GoodJobs of %d, %d, %d: %t", start, need, end, !want)
				}
			}
		}
	}
	for _, l := range append(jobLists(), smallJobLists()...) {
		if !impl.GoodJobs(l) {
			t.Errorf("GoodJobs(%v)", l)
		}
	}
}

func TestTheNearestEndFirst(t *testing.T) {
	for _, x := range []struct {
		what  string
		jobs  []impl.Job
		slots []int
		late  []int
	}{
		{"no jobs", nil, slotsFrom(), nil},
		{"one", []impl.Job{job(2, 3, 9)}, slotsFrom(-1, -1, 0, 0, 0), nil},
		{"the nearer end breaks in", []impl.Job{job(0, 3, 9), job(1, 2, 4)}, slotsFrom(0, 1, 1, 0, 0), nil},
		{"the farther end does not", []impl.Job{job(0, 3, 5), job(1, 2, 9)}, slotsFrom(0, 0, 0, 1, 1), nil},
		{"of as near ones the first", []impl.Job{job(0, 2, 6), job(0, 2, 6), job(0, 2, 6)}, slotsFrom(0, 0, 1, 1, 2, 2), nil},
		{"of as near ones the first, though it comes later", []impl.Job{job(1, 2, 6), job(0, 2, 6)}, slotsFrom(1, 0, 0, 1), nil},
		{"of as near ones the first, though the other has begun and needs less", []impl.Job{job(1, 5, 9), job(0, 2, 9)}, slotsFrom(1, 0, 0, 0, 0, 0, 1), nil},
		{"none between", []impl.Job{job(0, 1, 2), job(3, 1, 5)}, slotsFrom(0, -1, -1, 1), nil},
		{"it ends as it has had its Need", []impl.Job{job(1, 3, 4)}, slotsFrom(-1, 0, 0, 0), nil},
		{"a slot late", []impl.Job{job(1, 4, 4)}, slotsFrom(-1, 0, 0, 0, 0), []int{0}},
		{"late ones are done to the end", []impl.Job{job(0, 5, 1), job(2, 1, 3)}, slotsFrom(0, 0, 0, 0, 0, 1), []int{0, 1}},
		{"both by the same end", []impl.Job{job(0, 2, 3), job(0, 2, 3)}, slotsFrom(0, 0, 1, 1), []int{1}},
		{"the later one is late", []impl.Job{job(0, 2, 3), job(0, 2, 2)}, slotsFrom(1, 1, 0, 0), []int{0}},
	} {
		slots, ok := impl.EarliestFirst(x.jobs)
		wantSlots(t, x.what, slots, ok, x.slots)
		late, ok := impl.LateIn(x.jobs, x.slots)
		wantSlots(t, x.what+", late", late, ok, x.late)
		wantMet(t, x.jobs, x.late == nil)
	}
}

func TestTheLastSlot(t *testing.T) {
	last := impl.MaxSlots - 1
	slots := slotsFrom()
	slots[last] = 0
	for need := 1; need <= mostNeed; need++ {
		l := []impl.Job{job(last, need, impl.MaxSlots)}
		got, ok := impl.EarliestFirst(l)
		wantSlots(t, "from the last slot on", got, ok, slots)
		wantMet(t, l, need == 1)
		if need == 1 {
			wantOverload(t, l, 0, 0, false)
		} else if need == 2 {
			wantOverload(t, l, last, impl.MaxSlots, true)
		}
	}
	l := []impl.Job{job(last, 1, impl.MaxSlots), job(0, 1, impl.MaxSlots)}
	slots[0] = 1
	got, ok := impl.EarliestFirst(l)
	wantSlots(t, "the first slot and the last", got, ok, slots)
	full := []impl.Job{job(0, 6, 24), job(0, 6, 24), job(0, 6, 24), job(0, 6, 24)}
	got, ok = impl.EarliestFirst(full)
	wantSlots(t, "all slots", got, ok, []int{0, 0, 0, 0, 0, 0, 1, 1, 1, 1, 1, 1, 2, 2, 2, 2, 2, 2, 3, 3, 3, 3, 3, 3})
	wantMet(t, full, true)
	wantOverload(t, full, 0, 0, false)
	more := append(full, job(23, 1, 24))
	wantMet(t, more, false)
	wantOverload(t, more, 0, 24, true)
	late, ok := impl.LateIn(more, got)
	wantSlots(t, "one too many", late, ok, []int{4})
}

func TestMostJobs(t *testing.T) {
	var l []impl.Job
	var slots []int
	for k := range impl.MaxJobs {
		l = append(l, job(0, 3, impl.MaxSlots-3*k))
		slots = append(slots, impl.MaxJobs-1-k, impl.MaxJobs-1-k, impl.MaxJobs-1-k)
	}
	got, ok := impl.EarliestFirst(l)
	wantSlots(t, "as many as can be", got, ok, slots)
	wantMet(t, l, true)
	wantOverload(t, l, 0, 0, false)
	l[0].Need++
	wantMet(t, l, false)
	wantOverload(t, l, 0, 24, true)
	for k := range l {
		l[k] = job(0, 6, 1)
	}
	late, ok := impl.LateIn(l, slotsFrom())
	wantSlots(t, "all late, rising", late, ok, []int{0, 1, 2, 3, 4, 5, 6, 7})
	if n, ok := impl.DemandIn(l, 0, 1); n != 48 || !ok {
		t.Error(n, ok)
	}
}

func TestSlotBySlot(t *testing.T) {
	for _, l := range append(jobLists(), smallJobLists()...) {
		slots, ok := impl.EarliestFirst(l)
		wantSlots(t, "EarliestFirst", slots, ok, nearestTurns(l))
		if is, ok := impl.IsSchedule(l, slots); !is || !ok || !fits(l, slots) {
			t.Errorf("the slots %v of %v are no schedule: %t, %t", slots, l, is, ok)
		}
	}
}

func TestWhatSomeScheduleMeetsTheNearestEndMeets(t *testing.T) {
	met, missed := 0, 0
	for _, l := range append(jobLists(), smallJobLists()...) {
		some, can := matched(l)
		wantMet(t, l, can)
		from, to, is := overload(l)
		if is == can {
			t.Fatalf("the test's own ways do not agree on %v", l)
		}
		wantOverload(t, l, from, to, is)
		if !can {
			missed++
			continue
		}
		met++
		late, ok := impl.LateIn(l, some)
		wantSlots(t, "late in the schedule that was found", late, ok, nil)
		slots, _ := impl.EarliestFirst(l)
		late, ok = impl.LateIn(l, slots)
		wantSlots(t, "late in the nearest end first", late, ok, nil)
	}
	if met < 300 || missed < 300 {
		t.Error("too few can be met or missed for these lists to tell anything:", met, missed)
	}
}

func TestWhatIsASchedule(t *testing.T) {
	l := []impl.Job{job(0, 2, 3), job(2, 1, 5)}
	for _, x := range []struct {
		what  string
		slots []int
		is    bool
		late  []int
	}{
		{"nothing is done", slotsFrom(), true, []int{0, 1}},
		{"all in time", slotsFrom(0, 0, 1), true, nil},
		{"up to the last slot in time", slotsFrom(0, -1, 0, -1, 1), true, nil},
		{"at its end it is late", slotsFrom(0, -1, 1, 0), true, []int{0}},
		{"both at their ends", slotsFrom(-1, -1, 0, 0, -1, 1), true, []int{0, 1}},
		{"the second one alone", slotsFrom(0, 0, -1, -1, -1, 1), true, []int{1}},
		{"long past", append(slotsFrom(0, 0)[:23], 1), true, []int{1}},
		{"ahead of its Start", slotsFrom(0, 1), false, nil},
		{"just ahead of its Start, and then again", slotsFrom(-1, 1, 1), false, nil},
		{"more than its Need", slotsFrom(0, 0, 0), false, nil},
		{"more than its Need, past its End", slotsFrom(0, 0, 1, -1, -1, -1, 0), false, nil},
		{"the second one more than its Need", append(slotsFrom(0, 0, 1)[:23], 1), false, nil},
	} {
		if is, ok := impl.IsSchedule(l, x.slots); is != x.is || !ok {
			t.Errorf("%s: %t, %t", x.what, is, ok)
		}
		late, ok := impl.LateIn(l, x.slots)
		if ok != x.is || !slices.Equal(late, x.late) {
			t.Errorf("%s: late %v, %t, not %v", x.what, late, ok, x.late)
		}
	}
	if is, ok := impl.IsSchedule(nil, slotsFrom()); !is || !ok {
		t.Error("of no jobs:", is, ok)
	}
	late, ok := impl.LateIn(nil, slotsFrom())
	wantSlots(t, "late of no jobs", late, ok, nil)
}

func TestSchedulesOfAllKinds(t *testing.T) {
	good, bad := 0, 0
	for seed, l := range append(jobLists(), smallJobLists()...) {
		next := shaker(seed)
		slots, _ := impl.EarliestFirst(l)
		for range 4 {
			at := next(impl.MaxSlots)
			slots[at] = next(len(l)+1) - 1
			is, ok := impl.IsSchedule(l, slots)
			if is != fits(l, slots) || !ok {
				t.Errorf("IsSchedule(%v, %v): %t, %t", l, slots, is, ok)
			}
			late, ok := impl.LateIn(l, slots)
			if !fits(l, slots) {
				bad++
				if ok || len(late) != 0 {
					t.Errorf("LateIn(%v, %v): %v, %t", l, slots, late, ok)
				}
				continue
			}
			good++
			wantSlots(t, "LateIn", late, ok, lateOnes(l, slots))
		}
	}
	if good < 300 || bad < 300 {
		t.Error("too few are schedules, or too few are none, for these to tell anything:", good, bad)
	}
}

func TestDemandInEveryWhile(t *testing.T) {
	l := []impl.Job{job(2, 3, 8), job(4, 2, 6), job(0, 1, 24), job(4, 6, 6)}
	for _, x := range [][3]int{
		{0, 24, 12}, {1, 24, 11}, {0, 23, 11}, {2, 8, 11}, {3, 8, 8}, {2, 7, 8}, {4, 6, 8}, {5, 6, 0}, {4, 5, 0}, {5, 24, 0}, {23, 24, 0}, {0, 1, 0},
	} {
		if n, ok := impl.DemandIn(l, x[0], x[1]); n != x[2] || !ok {
			t.Errorf("DemandIn from %d to %d: %d, %t, not %d", x[0], x[1], n, ok, x[2])
		}
	}
	for _, l := range append(jobLists(), nil) {
		for from := -2; from <= impl.MaxSlots+2; from++ {
			for to := -2; to <= impl.MaxSlots+2; to++ {
				good := from >= 0 && from < to && to <= impl.MaxSlots
				want := 0
				if good {
					want = unitsIn(l, from, to)
				}
				if n, ok := impl.DemandIn(l, from, to); n != want || ok != good {
					t.Fatalf("DemandIn(%v, %d, %d): %d, %t", l, from, to, n, ok)
				}
			}
		}
	}
}

func TestTheFirstOverload(t *testing.T) {
	for _, x := range []struct {
		jobs     []impl.Job
		from, to int
		is       bool
	}{
		{nil, 0, 0, false},
		{[]impl.Job{job(0, 1, 1)}, 0, 0, false},
		{[]impl.Job{job(0, 2, 1)}, 0, 1, true},
		{[]impl.Job{job(0, 6, 6)}, 0, 0, false},
		{[]impl.Job{job(18, 6, 24)}, 0, 0, false},
		{[]impl.Job{job(19, 6, 24)}, 19, 24, true},
		{[]impl.Job{job(5, 3, 7)}, 5, 7, true},
		{[]impl.Job{job(5, 3, 7), job(5, 3, 7)}, 2, 7, true},
		{[]impl.Job{job(0, 6, 3), job(0, 2, 1)}, 0, 1, true},
		{[]impl.Job{job(4, 3, 5), job(0, 6, 10), job(0, 6, 10)}, 0, 10, true},
		{[]impl.Job{job(9, 2, 10), job(2, 2, 3)}, 2, 3, true},
	} {
		wantOverload(t, x.jobs, x.from, x.to, x.is)
		wantMet(t, x.jobs, !x.is)
	}
}

func TestAdmittedWhereAllCanBeMet(t *testing.T) {
	l := []impl.Job{job(0, 2, 2), job(5, 3, 8)}
	for _, x := range []struct {
		job impl.Job
		in  bool
	}{
		{job(0, 1, 3), true}, {job(0, 1, 2), false}, {job(0, 2, 3), false}, {job(0, 3, 5), true}, {job(0, 4, 5), false},
		{job(0, 4, 9), true}, {job(6, 1, 8), false}, {job(23, 1, 24), true}, {job(23, 2, 24), false}, {job(2, 6, 24), true},
	} {
		all, ok := impl.AdmitJob(l, x.job)
		if x.in {
			wantJobs(t, "admitted", all, ok, []impl.Job{l[0], l[1], x.job})
		} else if ok || len(all) != 0 {
			t.Errorf("AdmitJob of %v: %v, %t", x.job, all, ok)
		}
	}
	one, ok := impl.AdmitJob(nil, job(3, 1, 4))
	wantJobs(t, "the first one", one, ok, []impl.Job{job(3, 1, 4)})
	if all, ok := impl.AdmitJob([]impl.Job{job(0, 2, 1)}, job(9, 1, 24)); ok || len(all) != 0 {
		t.Error("one that can not be met stood there already:", all, ok)
	}
	in, out := 0, 0
	for _, l := range append(jobLists(), smallJobLists()...) {
		for k, x := range l {
			rest := slices.Delete(slices.Clone(l), k, k+1)
			want := append(slices.Clone(rest), x)
			all, ok := impl.AdmitJob(rest, x)
			if _, can := matched(want); can {
				in++
				wantJobs(t, "AdmitJob", all, ok, want)
			} else if out++; ok || len(all) != 0 {
				t.Errorf("AdmitJob(%v, %v): %v, %t", rest, x, all, ok)
			}
		}
	}
	if in < 300 || out < 300 {
		t.Error("too few are admitted or refused for these lists to tell anything:", in, out)
	}
}

func TestAdmittedTillTheListIsFull(t *testing.T) {
	var l []impl.Job
	for k := range impl.MaxJobs {
		var ok bool
		l, ok = impl.AdmitJob(l, job(k, 1, k+1))
		if !ok || len(l) != k+1 || l[k] != job(k, 1, k+1) {
			t.Fatal(k, l, ok)
		}
	}
	if all, ok := impl.AdmitJob(l, job(20, 1, 24)); ok || len(all) != 0 {
		t.Error("into a full list:", all, ok)
	}
}

var wrongJobs = []impl.Job{
	job(-1, 1, 5), job(24, 1, 25), job(24, 1, 24), job(25, 1, 24), job(0, 0, 5), job(0, -1, 5), job(0, 7, 24), job(3, 1, 3), job(3, 1, 2), job(0, 1, 0),
	job(0, 1, 25), job(23, 1, 25), job(3, 1, -1),
	{}, job(math.MinInt, 1, 5), job(math.MaxInt, 1, 5), job(0, math.MinInt, 5), job(0, math.MaxInt, 5), job(0, 1, math.MinInt), job(0, 1, math.MaxInt),
	job(math.MinInt, math.MinInt, math.MinInt), job(math.MaxInt, math.MaxInt, math.MaxInt), job(math.MinInt, 1, math.MaxInt), job(math.MaxInt, 1, math.MinInt),
}

// wantNoJobs holds all that takes jobs to its zero answer at l.
func wantNoJobs(t *testing.T, l []impl.Job) {
	t.Helper()
	if impl.GoodJobs(l) {
		t.Errorf("GoodJobs(%v)", l)
	}
	if slots, ok := impl.EarliestFirst(l); ok || len(slots) != 0 {
		t.Errorf("EarliestFirst(%v): %v, %t", l, slots, ok)
	}
	for _, slots := range [][]int{nil, slotsFrom(), slotsFrom(0), make([]int, impl.MaxSlots)} {
		wantNoSchedule(t, l, slots)
	}
	if met, ok := impl.CanMeet(l); met || ok {
		t.Errorf("CanMeet(%v): %t, %t", l, met, ok)
	}
	if n, ok := impl.DemandIn(l, 0, impl.MaxSlots); n != 0 || ok {
		t.Errorf("DemandIn(%v): %d, %t", l, n, ok)
	}
	if from, to, is, ok := impl.FirstOverload(l); from != 0 || to != 0 || is || ok {
		t.Errorf("FirstOverload(%v): %d, %d, %t, %t", l, from, to, is, ok)
	}
	if all, ok := impl.AdmitJob(l, job(23, 1, 24)); ok || len(all) != 0 {
		t.Errorf("AdmitJob(%v): %v, %t", l, all, ok)
	}
}

func wantNoSchedule(t *testing.T, l []impl.Job, slots []int) {
	t.Helper()
	if is, ok := impl.IsSchedule(l, slots); is || ok {
		t.Errorf("IsSchedule(%v, %v): %t, %t", l, slots, is, ok)
	}
	if late, ok := impl.LateIn(l, slots); ok || len(late) != 0 {
		t.Errorf("LateIn(%v, %v): %v, %t", l, slots, late, ok)
	}
}

func TestWrongJobs(t *testing.T) {
	for _, x := range wrongJobs {
		wantNoJobs(t, []impl.Job{x})
		for k := range 3 {
			l := []impl.Job{job(0, 1, 9), job(2, 2, 12), job(1, 1, 24)}
			l[k] = x
			wantNoJobs(t, l)
		}
		var l []impl.Job
		for range impl.MaxJobs - 1 {
			l = append(l, job(0, 1, 24))
		}
		if all, ok := impl.AdmitJob(l, x); ok || len(all) != 0 {
			t.Errorf("AdmitJob of %v: %v, %t", x, all, ok)
		}
		if all, ok := impl.AdmitJob(nil, x); ok || len(all) != 0 {
			t.Errorf("AdmitJob of %v alone: %v, %t", x, all, ok)
		}
		wantNoJobs(t, append(l, x))
	}
}

func TestTooManyJobs(t *testing.T) {
	for _, many := range []int{impl.MaxJobs + 1, impl.MaxJobs + 2, impl.MaxSlots, 1000} {
		var l []impl.Job
		for range many {
			l = append(l, job(0, 1, 24))
		}
		wantNoJobs(t, l)
		wantNoJobs(t, make([]impl.Job, many))
	}
}

func TestSlotsThatAreNone(t *testing.T) {
	for many := range impl.MaxJobs + 1 {
		var l []impl.Job
		for range many {
			l = append(l, job(0, 1, 24))
		}
		for _, length := range []int{0, 1, impl.MaxSlots - 1, impl.MaxSlots + 1, 2 * impl.MaxSlots} {
			slots := make([]int, length)
			for k := range slots {
				slots[k] = -1
			}
			wantNoSchedule(t, l, slots)
		}
		for at := range impl.MaxSlots {
			for _, k := range []int{-2, -3, many, many + 1, math.MinInt, math.MaxInt} {
				slots := slotsFrom()
				slots[at] = k
				wantNoSchedule(t, l, slots)
			}
		}
		wantNoSchedule(t, l, nil)
	}
}

func TestSlotsThatNameNoJobAndAreNoSchedule(t *testing.T) {
	l := []impl.Job{job(4, 1, 24), job(0, 1, 24)}
	for _, slots := range [][]int{slotsFrom(0, 2), slotsFrom(2, 0), slotsFrom(1, 1, -2), slotsFrom(-2, 1, 1)} {
		wantNoSchedule(t, l, slots)
	}
}

func TestWhilesThatAreNone(t *testing.T) {
	for _, l := range [][]impl.Job{nil, {job(0, 1, 1)}, {job(0, 6, 24), job(23, 6, 24)}} {
		for _, x := range [][2]int{
			{0, 0}, {5, 5}, {24, 24}, {6, 5}, {24, 0}, {-1, 5}, {-1, 0}, {0, 25}, {24, 25}, {-1, 25}, {-5, -1}, {25, 26},
			{math.MinInt, 24}, {0, math.MaxInt}, {math.MinInt, math.MaxInt}, {math.MaxInt, math.MinInt}, {math.MinInt, math.MinInt}, {math.MaxInt, math.MaxInt}, {0, math.MinInt}, {math.MaxInt, 24},
		} {
			if n, ok := impl.DemandIn(l, x[0], x[1]); n != 0 || ok {
				t.Errorf("DemandIn(%v) from %d to %d: %d, %t", l, x[0], x[1], n, ok)
			}
		}
	}
}

// hiddenJob and hiddenSlot stand behind the lists' lengths.
var hiddenJob = job(-7, -7, -7)

const hiddenSlot = -77

func withHidden[E any](l []E, hidden E) []E {
	all := append(make([]E, 0, len(l)+30), l...)
	for k := len(l); k < cap(all); k++ {
		all[:cap(all)][k] = hidden
	}
	return all
}

// wantUnchanged looks at what was given, at its memory behind its length as well.
func wantUnchanged[E comparable](t *testing.T, what string, given, were []E, hidden E) {
	t.Helper()
	if !slices.Equal(given, were) {
		t.Errorf("%s: %v has become %v", what, were, given)
	}
	for _, x := range given[len(given):cap(given)] {
		if x != hidden {
			t.Fatalf("%s: written behind the list's length", what)
		}
	}
}

// wrecked writes all over an answer, as far as its memory goes.
func wrecked[E comparable](t *testing.T, what string, answer []E, hidden E) {
	t.Helper()
	whole := answer[:cap(answer)]
	if slices.Contains(whole, hidden) {
		t.Errorf("%s: the answer has what lies behind a list's length", what)
	}
	var zero E
	for _, x := range whole[len(answer):] {
		if x != zero {
			t.Errorf("%s: %v is left behind the answer's length", what, x)
		}
	}
	for k := range whole {
		whole[k] = zero
	}
}

func TestJobsAreNotWrittenInto(t *testing.T) {
	lists := append(jobLists(), smallJobLists()...)
	lists = append(lists, wrongJobs[:1], []impl.Job{job(0, 2, 1), wrongJobs[1]}, make([]impl.Job, impl.MaxJobs+1))
	for _, were := range lists {
		l := withHidden(were, hiddenJob)
		slots, _ := impl.EarliestFirst(l)
		wantUnchanged(t, "EarliestFirst", l, were, hiddenJob)
		for _, wereSlots := range [][]int{slots, slotsFrom(), slotsFrom(0, 0, 0, 0, 0, 0, 0), nil, {9}} {
			wereSlots = slices.Clone(wereSlots)
			given := withHidden(wereSlots, hiddenSlot)
			late, _ := impl.LateIn(l, given)
			wrecked(t, "LateIn", late, hiddenSlot)
			impl.IsSchedule(l, given)
			wantUnchanged(t, "LateIn and IsSchedule, slots", given, wereSlots, hiddenSlot)
			wantUnchanged(t, "LateIn and IsSchedule, jobs", l, were, hiddenJob)
		}
		wrecked(t, "EarliestFirst", slots, hiddenSlot)
		for _, x := range []impl.Job{job(0, 1, 24), job(23, 1, 24), job(0, 6, 3), hiddenJob} {
			all, _ := impl.AdmitJob(l, x)
			wrecked(t, "AdmitJob", all, hiddenJob)
			wantUnchanged(t, "AdmitJob", l, were, hiddenJob)
		}
		impl.GoodJobs(l)
		impl.CanMeet(l)
		impl.DemandIn(l, 0, impl.MaxSlots)
		impl.FirstOverload(l)
		wantUnchanged(t, "the asking ones", l, were, hiddenJob)
	}
}

func TestJobsBehindAListAreNotRead(t *testing.T) {
	for _, were := range jobLists() {
		l := withHidden(were, hiddenJob)
		slots, ok := impl.EarliestFirst(l)
		wantSlots(t, "EarliestFirst", slots, ok, nearestTurns(were))
		given := withHidden(slots, 0)
		late, ok := impl.LateIn(l, given)
		wantSlots(t, "LateIn", late, ok, lateOnes(were, slots))
		if is, ok := impl.IsSchedule(l, given); !is || !ok {
			t.Errorf("IsSchedule(%v, %v): %t, %t", were, slots, is, ok)
		}
		_, can := matched(were)
		wantMet(t, l, can)
	}
}

func TestNilAndEmptyListsOfJobsAreTheSame(t *testing.T) {
	for _, l := range [][]impl.Job{nil, {}, withHidden[impl.Job](nil, hiddenJob)} {
		if !impl.GoodJobs(l) {
			t.Error("no jobs are good")
		}
		slots, ok := impl.EarliestFirst(l)
		wantSlots(t, "no jobs", slots, ok, slotsFrom())
		wantMet(t, l, true)
		wantOverload(t, l, 0, 0, false)
		if n, ok := impl.DemandIn(l, 0, impl.MaxSlots); n != 0 || !ok {
			t.Error(n, ok)
		}
		all, ok := impl.AdmitJob(l, job(0, 6, 6))
		wantJobs(t, "no jobs and one", all, ok, []impl.Job{job(0, 6, 6)})
	}
}
