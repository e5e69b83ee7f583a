package tests

import (
	"math"
	"slices"
	"testing"

	"loop.example/g00527/impl"
)

// mostAgainNeed and lastEvery are the greatest Need and the greatest Every of a task that comes again.
const (
	mostAgainNeed = 10
	lastEvery     = 40
)

func again(need, every int) impl.Again {
	return impl.Again{Need: need, Every: every}
}

// coming is one coming of a task: when it comes, and when it is done (0 where it is not by the end).
type coming struct {
	at, done int
}

// rateOrder, laidByRank, enoughTime and loadSum are written apart from the program, to be held against it.
func rateOrder(l []impl.Again) []int {
	var order []int
	for every := range lastEvery + 1 {
		for k, x := range l {
			if x.Every == every {
				order = append(order, k)
			}
		}
	}
	return order
}

// laidByRank lays task by task, each coming into the first slots that those of higher rank have left free; begins tells when each task comes at first.
func laidByRank(l []impl.Again, begins []int, long int) ([]int, [][]coming) {
	slots := slices.Repeat([]int{-1}, long)
	comings := make([][]coming, len(l))
	for k, x := range l {
		for at := begins[k]; at < long; at += x.Every {
			c := coming{at: at}
			left := x.Need
			for slot := at; slot < long && left > 0; slot++ {
				if slots[slot] != -1 {
					continue
				}
				slots[slot] = k
				left--
				if left == 0 {
					c.done = slot + 1
				}
			}
			comings[k] = append(comings[k], c)
		}
	}
	return slots, comings
}

func laidAtOnce(l []impl.Again, long int) ([]int, [][]coming) {
	return laidByRank(l, make([]int, len(l)), long)
}

// enoughTime is the first time by which all is done that has come ahead of it of those ahead, and a task's own Need; 0 where none up to upto is.
func enoughTime(l []impl.Again, k, upto int) int {
	need := l[k].Need
	for at := range upto {
		for _, x := range l[:k] {
			if at%x.Every == 0 {
				need += x.Need
			}
		}
		if need <= at+1 {
			return at + 1
		}
	}
	return 0
}

// loadSum is the load over the product of all Everys.
func loadSum(l []impl.Again) (int, int) {
	product := 1
	for _, x := range l {
		product *= x.Every
	}
	sum := 0
	for _, x := range l {
		sum += x.Need * (product / x.Every)
	}
	return sum, product
}

// everyOrder gives all orders of the numbers below many.
func everyOrder(many int) [][]int {
	orders := [][]int{nil}
	for k := range many {
		var longer [][]int
		for _, order := range orders {
			for at := range k + 1 {
				longer = append(longer, slices.Insert(slices.Clone(order), at, k))
			}
		}
		orders = longer
	}
	return orders
}

func inOrder(l []impl.Again, order []int) []impl.Again {
	var turned []impl.Again
	for _, k := range order {
		turned = append(turned, l[k])
	}
	return turned
}

// shakenAgain have Needs of at most need and Everys up to every, or only such as divide every.
func shakenAgain(many, need, every int, divides bool, seed int) []impl.Again {
	next := shaker(seed)
	var l []impl.Again
	for len(l) < many {
		x := again(1+next(need), 1+next(every))
		if x.Every >= x.Need && (!divides || every%x.Every == 0) {
			l = append(l, x)
		}
	}
	return l
}

// againLists are shaken lists of every length up to MaxAgain, crowded ones, roomy ones and ones with much alike.
func againLists(each int) [][]impl.Again {
	var lists [][]impl.Again
	for many := range impl.MaxAgain + 1 {
		for seed := range each {
			lists = append(lists,
				shakenAgain(many, mostAgainNeed, lastEvery, false, seed),
				shakenAgain(many, 3, lastEvery, false, seed),
				shakenAgain(many, 2, 12, false, seed),
				shakenAgain(many, 4, 24, true, seed),
				shakenAgain(many, mostAgainNeed, lastEvery, true, seed))
		}
	}
	return lists
}

// smallAgainLists are all lists of at most 3 tasks with Needs up to need and Everys up to every.
func smallAgainLists(need, every int) [][]impl.Again {
	lists := [][]impl.Again{nil}
	for at := 0; len(lists[at]) < 3; at++ {
		for n := 1; n <= need; n++ {
			for e := n; e <= every; e++ {
				lists = append(lists, append(slices.Clone(lists[at]), again(n, e)))
			}
		}
	}
	return lists
}

// longRuns have a last task that is done at 199, at just MaxLong, at 201, at 202, and never.
var longRuns = []struct {
	tasks []impl.Again
	last  int
}{
	{[]impl.Again{again(6, 10), again(9, 25), again(7, 40)}, 199},
	{[]impl.Again{again(9, 20), again(6, 17), again(3, 23), again(10, 17)}, 199},
	{[]impl.Again{again(7, 20), again(5, 8), again(5, 8)}, 200},
	{[]impl.Again{again(7, 40), again(8, 10), again(5, 40)}, 200},
	{[]impl.Again{again(4, 12), again(10, 26), again(6, 29), again(10, 32)}, 200},
	{[]impl.Again{again(8, 40), again(2, 27), again(10, 25), again(8, 30), again(8, 40)}, 200},
	{[]impl.Again{again(8, 12), again(8, 29), again(9, 14)}, 201},
	{[]impl.Again{again(8, 21), again(8, 26), again(8, 34), again(9, 38)}, 201},
	{[]impl.Again{again(5, 7), again(8, 34), again(9, 37)}, 202},
	{[]impl.Again{again(5, 23), again(7, 17), again(1, 28), again(9, 29), again(2, 24)}, 202},
	{[]impl.Again{again(10, 10), again(1, 40)}, 0},
	{[]impl.Again{again(1, 1), again(1, 1)}, 0},
	{[]impl.Again{again(1, 2), again(1, 3), again(1, 6), again(1, 40)}, 0},
	{[]impl.Again{again(10, 20), again(10, 20), again(1, 30)}, 0},
	{[]impl.Again{again(10, 12), again(10, 12), again(10, 12), again(10, 12), again(10, 12)}, 0},
}

func wantLongest(t *testing.T, l []impl.Again, k, want int) {
	t.Helper()
	longest, is, ok := impl.LongestOf(l, k)
	if longest != want || is != (want != 0) || !ok {
		t.Errorf("LongestOf(%v, %d): %d, %t, %t, not %d", l, k, longest, is, ok, want)
	}
	done, is, ok := impl.FirstDone(l, k)
	if done != want || is != (want != 0) || !ok {
		t.Errorf("FirstDone(%v, %d): %d, %t, %t, not %d", l, k, done, is, ok, want)
	}
}

func wantRun(t *testing.T, l []impl.Again, long int, want []int) {
	t.Helper()
	if slots, ok := impl.RunAgain(l, long); !ok || !slices.Equal(slots, want) {
		t.Errorf("RunAgain(%v, %d): %v, %t, not %v", l, long, slots, ok, want)
	}
}

func wantLoad(t *testing.T, l []impl.Again, upper, lower int) {
	t.Helper()
	if up, low, ok := impl.LoadOf(l); up != upper || low != lower || !ok {
		t.Errorf("LoadOf(%v): %d/%d, %t, not %d/%d", l, up, low, ok, upper, lower)
	}
}

func wantAllInTime(t *testing.T, l []impl.Again, want bool) {
	t.Helper()
	if all, ok := impl.AllInTime(l); all != want || !ok {
		t.Errorf("AllInTime(%v): %t, %t, not %t", l, all, ok, want)
	}
}

func TestLimitsOfAgain(t *testing.T) {
	if impl.MaxAgain != 5 || impl.MaxLong != 200 {
		t.Error(impl.MaxAgain, impl.MaxLong)
	}
}

func TestEveryAgainWithinItsLimitsIsGood(t *testing.T) {
	for need := -2; need <= mostAgainNeed+3; need++ {
		for every := -2; every <= lastEvery+3; every++ {
			want := need >= 1 && need <= 10 && every >= need && every <= 40
			if impl.GoodAgain([]impl.Again{again(need, every)}) != want {
				t.Errorf("GoodAgain of %d, %d: %t", need, every, !want)
			}
		}
	}
	for _, l := range againLists(20) {
		if !impl.GoodAgain(l) {
			t.Errorf("GoodAgain(%v)", l)
		}
	}
}

func TestOrdersByRate(t *testing.T) {
	for _, x := range []struct {
		what  string
		tasks []impl.Again
		order []int
	}{
		{"none", nil, nil},
		{"one", []impl.Again{again(3, 7)}, []int{0}},
		{"rising", []impl.Again{again(9, 9), again(1, 20), again(5, 40)}, []int{0, 1, 2}},
		{"falling", []impl.Again{again(1, 40), again(1, 20), again(1, 1)}, []int{2, 1, 0}},
		{"all alike", []impl.Again{again(4, 8), again(4, 8), again(4, 8), again(4, 8), again(4, 8)}, []int{0, 1, 2, 3, 4}},
		{"of alike Everys the first, whatever the Needs", []impl.Again{again(9, 12), again(1, 12), again(5, 12), again(2, 3), again(1, 3)}, []int{3, 4, 0, 1, 2}},
		{"by numbers, not by digits", []impl.Again{again(1, 30), again(1, 4), again(1, 11)}, []int{1, 2, 0}},
		{"not by the share of its Every", []impl.Again{again(1, 10), again(10, 11), again(1, 9)}, []int{2, 0, 1}},
	} {
		order, ok := impl.ByRate(x.tasks)
		wantOrder(t, x.what, order, ok, x.order)
	}
	for _, l := range append(againLists(60), smallAgainLists(3, 5)...) {
		order, ok := impl.ByRate(l)
		wantOrder(t, "ByRate", order, ok, rateOrder(l))
	}
}

func TestRunsByRank(t *testing.T) {
	wantRun(t, nil, 3, []int{-1, -1, -1})
	wantRun(t, []impl.Again{again(1, 1)}, 4, []int{0, 0, 0, 0})
	wantRun(t, []impl.Again{again(2, 5)}, 12, []int{0, 0, -1, -1, -1, 0, 0, -1, -1, -1, 0, 0})
	wantRun(t, []impl.Again{again(1, 3), again(2, 5)}, 16, []int{0, 1, 1, 0, -1, 1, 0, 1, -1, 0, 1, 1, 0, -1, -1, 0})
	wantRun(t, []impl.Again{again(2, 5), again(1, 3)}, 16, []int{0, 0, 1, 1, -1, 0, 0, 1, -1, 1, 0, 0, 1, -1, -1, 0})
	// The second one comes again ahead of being done, and still has all of both comings.
	wantRun(t, []impl.Again{again(4, 10), again(2, 3)}, 13, []int{0, 0, 0, 0, 1, 1, 1, 1, 1, 1, 0, 0, 0})
	wantRun(t, []impl.Again{again(2, 4), again(1, 2), again(3, 12)}, 9, []int{0, 0, 1, 1, 0, 0, 1, 1, 0})
	// One is broken off, twice, by one that comes again.
	wantRun(t, []impl.Again{again(1, 3), again(5, 20)}, 10, []int{0, 1, 1, 0, 1, 1, 0, 1, -1, 0})
	// The least rank goes last, however often it comes.
	wantRun(t, []impl.Again{again(3, 9), again(1, 9), again(1, 2)}, 11, []int{0, 0, 0, 1, 2, 2, 2, 2, 2, 0, 0})
}

func TestRunsOfEveryLength(t *testing.T) {
	idle, busy := 0, 0
	for _, l := range againLists(12) {
		whole, _ := laidAtOnce(l, impl.MaxLong)
		wantRun(t, l, impl.MaxLong, whole)
		for _, long := range []int{1, 2, 39, 40, 41, impl.MaxLong - 1} {
			wantRun(t, l, long, whole[:long])
		}
		if slices.Contains(whole, -1) {
			idle++
		} else {
			busy++
		}
	}
	if idle < 100 || busy < 100 {
		t.Error("too few runs have or have not a slot in which nothing is to be done:", idle, busy)
	}
	for _, l := range smallAgainLists(3, 5) {
		slots, _ := laidAtOnce(l, 45)
		wantRun(t, l, 45, slots)
	}
	l := []impl.Again{again(2, 7), again(3, 11), again(4, 40)}
	whole, _ := laidAtOnce(l, impl.MaxLong)
	for long := 1; long <= impl.MaxLong; long++ {
		wantRun(t, l, long, whole[:long])
	}
}

func TestNothingToBeDone(t *testing.T) {
	wantRun(t, nil, 1, []int{-1})
	wantRun(t, nil, impl.MaxLong, slices.Repeat([]int{-1}, impl.MaxLong))
	wantRun(t, []impl.Again{again(1, 40)}, 1, []int{0})
	one := slices.Repeat([]int{-1}, impl.MaxLong)
	for _, slot := range []int{0, 40, 80, 120, 160} {
		one[slot] = 0
	}
	wantRun(t, []impl.Again{again(1, 40)}, impl.MaxLong, one)
	wantRun(t, []impl.Again{again(10, 10), again(10, 40)}, impl.MaxLong, make([]int, impl.MaxLong))
}

func TestHowLongATaskTakes(t *testing.T) {
	for _, x := range []struct {
		what  string
		tasks []impl.Again
		each  []int
		all   bool
	}{
		{"none", nil, nil, true},
		{"one takes its Need", []impl.Again{again(3, 9)}, []int{3}, true},
		{"a Need that is its Every", []impl.Again{again(10, 10)}, []int{10}, true},
		{"the least", []impl.Again{again(1, 1)}, []int{1}, true},
		{"an Every's end is not another coming", []impl.Again{again(1, 3), again(2, 5)}, []int{1, 3}, true},
		{"a Need of two for each coming begun", []impl.Again{again(2, 4), again(1, 8)}, []int{2, 3}, true},
		{"another coming", []impl.Again{again(1, 3), again(3, 5)}, []int{1, 5}, true},
		{"just its Every, at a load of one", []impl.Again{again(1, 2), again(1, 3), again(1, 6)}, []int{1, 2, 6}, true},
		{"a load of one, not in time", []impl.Again{again(2, 4), again(3, 6)}, []int{2, 7}, false},
		{"just its Every, below a load of one", []impl.Again{again(2, 4), again(3, 7)}, []int{2, 7}, true},
		{"one more than its Every", []impl.Again{again(1, 2), again(1, 3), again(1, 5)}, []int{1, 2, 6}, false},
		{"the rank is by the list", []impl.Again{again(6, 12), again(1, 3)}, []int{6, 7}, false},
		{"turned by how often", []impl.Again{again(1, 3), again(6, 12)}, []int{1, 9}, true},
		{"those behind do not count", []impl.Again{again(5, 20), again(10, 10), again(10, 10)}, []int{5, 15, 0}, false},
		{"a Need that is its Every leaves nothing", []impl.Again{again(7, 7), again(1, 40)}, []int{7, 0}, false},
		{"a load above one, done late", []impl.Again{again(5, 8), again(4, 8)}, []int{5, 14}, false},
	} {
		for k, want := range x.each {
			wantLongest(t, x.tasks, k, want)
		}
		wantAllInTime(t, x.tasks, x.all)
	}
}

func TestLongestAboutMaxLong(t *testing.T) {
	for _, x := range longRuns {
		k := len(x.tasks) - 1
		want := x.last
		if want > impl.MaxLong {
			want = 0
		}
		wantLongest(t, x.tasks, k, want)
		wantAllInTime(t, x.tasks, false)
		if got := enoughTime(x.tasks, k, 10000); got != x.last {
			t.Errorf("%v has its last one done at %d, not at %d", x.tasks, got, x.last)
		}
	}
}

func TestLongestIsTheFirstTimeThatIsEnough(t *testing.T) {
	never, late, inTime := 0, 0, 0
	for _, l := range append(againLists(150), smallAgainLists(3, 6)...) {
		_, comings := laidAtOnce(l, impl.MaxLong)
		all := true
		for k, x := range l {
			want := enoughTime(l, k, impl.MaxLong)
			wantLongest(t, l, k, want)
			if done := comings[k][0].done; done != want {
				t.Errorf("%v, %d: laid by hand it is done at %d, not at %d", l, k, done, want)
			}
			if want == 0 {
				never++
			} else if want > x.Every {
				late++
			} else {
				inTime++
			}
			all = all && want != 0 && want <= x.Every
		}
		wantAllInTime(t, l, all)
	}
	if min(never, late, inTime) < 500 {
		t.Error("too few of a kind for these lists to tell anything:", never, late, inTime)
	}
}

// wantNoLonger lays the tasks as they begin and looks whether one that is in time when all come at once ever takes longer; it tells how many comings it looked at.
func wantNoLonger(t *testing.T, l []impl.Again, begins []int, long int) int {
	t.Helper()
	_, comings := laidByRank(l, begins, long)
	looked := 0
	for k, x := range l {
		longest, is, _ := impl.LongestOf(l, k)
		if !is || longest > x.Every {
			continue
		}
		for _, c := range comings[k] {
			if c.at+longest > long {
				continue
			}
			looked++
			if c.done == 0 || c.done-c.at > longest {
				t.Errorf("%v, begun at %v: what comes of %d at %d is done at %d, after more than %d", l, begins, k, c.at, c.done, longest)
			}
		}
	}
	return looked
}

func TestNoneTakesLongerThanWhenAllComeAtOnce(t *testing.T) {
	looked := 0
	for seed, l := range againLists(40) {
		looked += wantNoLonger(t, l, make([]int, len(l)), 300)
		next := shaker(seed)
		for range 8 {
			begins := make([]int, len(l))
			for k, x := range l {
				begins[k] = next(x.Every)
			}
			looked += wantNoLonger(t, l, begins, 300)
		}
	}
	if looked < 100000 {
		t.Error("too few comings are looked at:", looked)
	}
}

func TestWheneverTheOthersBegin(t *testing.T) {
	for _, l := range smallAgainLists(2, 4) {
		if len(l) != 3 {
			continue
		}
		for a := range l[0].Every {
			for b := range l[1].Every {
				for c := range l[2].Every {
					wantNoLonger(t, l, []int{a, b, c}, 40)
				}
			}
		}
	}
}

func TestLoads(t *testing.T) {
	for _, x := range []struct {
		tasks        []impl.Again
		upper, lower int
	}{
		{nil, 0, 1},
		{[]impl.Again{again(1, 40)}, 1, 40},
		{[]impl.Again{again(10, 40)}, 1, 4},
		{[]impl.Again{again(4, 6)}, 2, 3},
		{[]impl.Again{again(1, 1)}, 1, 1},
		{[]impl.Again{again(10, 10)}, 1, 1},
		{[]impl.Again{again(1, 3), again(2, 5)}, 11, 15},
		{[]impl.Again{again(1, 3), again(1, 6)}, 1, 2},
		{[]impl.Again{again(1, 6), again(1, 10)}, 4, 15},
		{[]impl.Again{again(1, 2), again(1, 3), again(1, 6)}, 1, 1},
		{[]impl.Again{again(1, 2), again(1, 3), again(1, 6), again(1, 40)}, 41, 40},
		{[]impl.Again{again(5, 8), again(4, 8)}, 9, 8},
		{[]impl.Again{again(10, 10), again(10, 10), again(10, 10), again(10, 10), again(10, 10)}, 5, 1},
		{[]impl.Again{again(8, 40), again(8, 40), again(8, 40), again(8, 40), again(8, 40)}, 1, 1},
		{[]impl.Again{again(1, 40), again(1, 39), again(1, 37), again(1, 31), again(1, 29)}, 7493417, 51890280},
	} {
		wantLoad(t, x.tasks, x.upper, x.lower)
	}
}

func TestLoadsAreInTheirLowestTerms(t *testing.T) {
	less, one, more := 0, 0, 0
	for _, l := range append(againLists(60), smallAgainLists(3, 6)...) {
		sum, product := loadSum(l)
		upper, lower, ok := impl.LoadOf(l)
		if !ok || lower < 1 || upper*product != lower*sum {
			t.Errorf("LoadOf(%v): %d/%d, %t, not %d/%d", l, upper, lower, ok, sum, product)
		}
		// What divides the lower part is made of divisors of the Everys.
		for d := 2; d <= lastEvery; d++ {
			if upper%d == 0 && lower%d == 0 {
				t.Errorf("LoadOf(%v): %d/%d can be divided by %d", l, upper, lower, d)
			}
		}
		if upper < lower {
			less++
		} else if upper == lower {
			one++
		} else {
			more++
		}
	}
	if min(less, one, more) < 50 {
		t.Error("too few loads of a kind:", less, one, more)
	}
}

// wantRateBest looks at all orders; it tells whether some has all in time, and whether not all have.
func wantRateBest(t *testing.T, l []impl.Again) (bool, bool) {
	t.Helper()
	some, every := false, true
	for _, order := range everyOrder(len(l)) {
		all, ok := impl.AllInTime(inOrder(l, order))
		if !ok {
			t.Errorf("AllInTime(%v in order %v) is refused", l, order)
		}
		some, every = some || all, every && all
	}
	rate, _ := impl.ByRate(l)
	if all, _ := impl.AllInTime(inOrder(l, rate)); all != some {
		t.Errorf("%v: some order has all in time: %t, the one by rate: %t", l, some, all)
	}
	if upper, lower, _ := impl.LoadOf(l); some && upper > lower {
		t.Errorf("%v: all in time at a load of %d/%d", l, upper, lower)
	}
	return some, some && !every
}

func TestWhereSomeOrderIsInTimeTheOneByRateIs(t *testing.T) {
	in, apart := 0, 0
	for _, l := range append(againLists(60), smallAgainLists(3, 6)...) {
		some, differ := wantRateBest(t, l)
		if some {
			in++
		}
		if differ {
			apart++
		}
	}
	if in < 500 || apart < 200 {
		t.Error("too few lists are in time, or in some orders alone:", in, apart)
	}
}

func TestLoadsAboutOneInTime(t *testing.T) {
	for _, x := range []struct {
		tasks []impl.Again
		some  bool
	}{
		{[]impl.Again{again(2, 4), again(4, 8)}, true},
		{[]impl.Again{again(1, 6), again(1, 3), again(1, 2)}, true},
		{[]impl.Again{again(10, 40), again(10, 20), again(2, 10), again(1, 20)}, true},
		{[]impl.Again{again(10, 10)}, true},
		{[]impl.Again{again(5, 10), again(5, 10)}, true},
		{[]impl.Again{again(2, 4), again(3, 6)}, false},
		{[]impl.Again{again(2, 4), again(4, 8), again(1, 40)}, false},
		{[]impl.Again{again(10, 10), again(1, 40)}, false},
		{[]impl.Again{again(10, 10), again(10, 10)}, false},
	} {
		if some, _ := wantRateBest(t, x.tasks); some != x.some {
			t.Errorf("%v: some order has all in time: %t", x.tasks, some)
		}
	}
}

func TestMostAgain(t *testing.T) {
	full := slices.Repeat([]impl.Again{again(8, 40)}, impl.MaxAgain)
	rate, ok := impl.ByRate(full)
	wantOrder(t, "as many as can be", rate, ok, []int{0, 1, 2, 3, 4})
	for k := range full {
		wantLongest(t, full, k, 8*k+8)
	}
	wantAllInTime(t, full, true)
	slots, _ := laidAtOnce(full, impl.MaxLong)
	wantRun(t, full, impl.MaxLong, slots)
	full[4].Need = 9
	wantAllInTime(t, full, false)
	wantLoad(t, full, 41, 40)
	wantLongest(t, full, 4, 73)
	full = slices.Repeat([]impl.Again{again(10, 40)}, impl.MaxAgain)
	wantLongest(t, full, 3, 40)
	wantLongest(t, full, 4, 0)
	wantLoad(t, full, 5, 4)
	full = []impl.Again{again(1, 40), again(1, 30), again(1, 20), again(1, 10), again(1, 5)}
	rate, ok = impl.ByRate(full)
	wantOrder(t, "the last first", rate, ok, []int{4, 3, 2, 1, 0})
	wantLongest(t, full, 4, 5)
	wantAllInTime(t, full, true)
}

var wrongAgains = []impl.Again{
	{}, again(0, 5), again(-1, 5), again(11, 20), again(11, 11), again(11, 40), again(2, 1), again(10, 9), again(1, 0), again(1, -1), again(1, 41), again(10, 41), again(0, 0), again(-3, -3), again(-3, -1), again(0, 41), again(41, 41),
	again(math.MinInt, 5), again(math.MaxInt, 5), again(1, math.MinInt), again(1, math.MaxInt),
	again(math.MinInt, math.MinInt), again(math.MaxInt, math.MaxInt), again(math.MinInt, math.MaxInt), again(math.MaxInt, math.MinInt),
}

// wantNoAgain holds all that takes tasks that come again to its zero answer at l.
func wantNoAgain(t *testing.T, l []impl.Again) {
	t.Helper()
	if impl.GoodAgain(l) {
		t.Errorf("GoodAgain(%v)", l)
	}
	if order, ok := impl.ByRate(l); ok || len(order) != 0 {
		t.Errorf("ByRate(%v): %v, %t", l, order, ok)
	}
	if upper, lower, ok := impl.LoadOf(l); ok || upper != 0 || lower != 0 {
		t.Errorf("LoadOf(%v): %d/%d, %t", l, upper, lower, ok)
	}
	if all, ok := impl.AllInTime(l); ok || all {
		t.Errorf("AllInTime(%v): %t, %t", l, all, ok)
	}
	for _, k := range []int{0, 1, len(l) - 1, len(l), -1, math.MinInt, math.MaxInt} {
		wantNoSuchAgain(t, l, k)
	}
	for _, long := range []int{1, impl.MaxLong, 0, -1, impl.MaxLong + 1, math.MinInt, math.MaxInt} {
		wantNoRun(t, l, long)
	}
}

func wantNoSuchAgain(t *testing.T, l []impl.Again, k int) {
	t.Helper()
	if n, is, ok := impl.LongestOf(l, k); ok || is || n != 0 {
		t.Errorf("LongestOf(%v, %d): %d, %t, %t", l, k, n, is, ok)
	}
	if n, is, ok := impl.FirstDone(l, k); ok || is || n != 0 {
		t.Errorf("FirstDone(%v, %d): %d, %t, %t", l, k, n, is, ok)
	}
}

func wantNoRun(t *testing.T, l []impl.Again, long int) {
	t.Helper()
	if slots, ok := impl.RunAgain(l, long); ok || len(slots) != 0 {
		t.Errorf("RunAgain(%v, %d): %v, %t", l, long, slots, ok)
	}
}

func TestWrongAgain(t *testing.T) {
	for _, x := range wrongAgains {
		for many := 1; many <= impl.MaxAgain; many++ {
			for at := range many {
				l := shakenAgain(many, mostAgainNeed, lastEvery, false, at)
				l[at] = x
				wantNoAgain(t, l)
			}
		}
	}
}

func TestTooManyAgain(t *testing.T) {
	for _, many := range []int{impl.MaxAgain + 1, impl.MaxAgain + 2, 64, 1000} {
		wantNoAgain(t, shakenAgain(many, mostAgainNeed, lastEvery, false, many))
		wantNoAgain(t, slices.Repeat([]impl.Again{again(1, 40)}, many))
		wantNoAgain(t, make([]impl.Again, many))
	}
}

func TestNoSuchTaskAndNoSuchLength(t *testing.T) {
	for many := range impl.MaxAgain + 1 {
		l := shakenAgain(many, mostAgainNeed, lastEvery, false, many)
		for _, k := range []int{-1, -2, -many - 1, many, many + 1, impl.MaxAgain, math.MinInt, math.MinInt + 1, math.MaxInt - 1, math.MaxInt} {
			wantNoSuchAgain(t, l, k)
		}
		for _, long := range []int{0, -1, -impl.MaxLong, impl.MaxLong + 1, impl.MaxLong + 2, 1 << 32, math.MinInt, math.MinInt + 1, math.MaxInt - 1, math.MaxInt} {
			wantNoRun(t, l, long)
		}
	}
}

// hiddenAgain stands behind the lists' lengths.
var hiddenAgain = again(-7, -7)

func TestAgainIsNotWrittenInto(t *testing.T) {
	lists := append(againLists(10), smallAgainLists(2, 3)...)
	lists = append(lists, wrongAgains[:1], []impl.Again{again(2, 9), again(1, 3), wrongAgains[1]}, shakenAgain(impl.MaxAgain+1, 5, 40, false, 1))
	for _, were := range lists {
		l := withHidden(were, hiddenAgain)
		rate, _ := impl.ByRate(l)
		wrecked(t, "ByRate", rate, hiddenNumber)
		wantUnchanged(t, "ByRate", l, were, hiddenAgain)
		for _, long := range []int{1, 33, impl.MaxLong, 0, impl.MaxLong + 1} {
			slots, _ := impl.RunAgain(l, long)
			wrecked(t, "RunAgain", slots, hiddenNumber)
			wantUnchanged(t, "RunAgain", l, were, hiddenAgain)
		}
		for k := -1; k <= len(l); k++ {
			impl.LongestOf(l, k)
			impl.FirstDone(l, k)
		}
		impl.GoodAgain(l)
		impl.LoadOf(l)
		impl.AllInTime(l)
		wantUnchanged(t, "the asking ones", l, were, hiddenAgain)
	}
}

func TestAnswersStayWhenOthersAreWrittenInto(t *testing.T) {
	l := []impl.Again{again(2, 9), again(1, 3)}
	first, _ := impl.RunAgain(l, 20)
	rate, _ := impl.ByRate(l)
	clear(first)
	clear(rate)
	slots, _ := laidAtOnce(l, 20)
	wantRun(t, l, 20, slots)
	order, ok := impl.ByRate(l)
	wantOrder(t, "ByRate", order, ok, []int{1, 0})
	wantLongest(t, l, 1, 3)
}

func TestAgainBehindAListIsNotRead(t *testing.T) {
	// Good ones behind the length are as little read as wrong ones.
	for _, hidden := range []impl.Again{hiddenAgain, again(10, 10), again(1, 1)} {
		for _, were := range againLists(10) {
			l := withHidden(were, hidden)
			rate, ok := impl.ByRate(l)
			wantOrder(t, "ByRate", rate, ok, rateOrder(were))
			slots, _ := laidAtOnce(were, impl.MaxLong)
			wantRun(t, l, impl.MaxLong, slots)
			for k := range were {
				wantLongest(t, l, k, enoughTime(were, k, impl.MaxLong))
			}
			wantNoSuchAgain(t, l, len(l))
			upper, lower, _ := impl.LoadOf(were)
			wantLoad(t, l, upper, lower)
			all, _ := impl.AllInTime(were)
			wantAllInTime(t, l, all)
		}
	}
}

func TestNilAndEmptyListsOfAgainAreTheSame(t *testing.T) {
	for _, l := range [][]impl.Again{nil, {}, withHidden[impl.Again](nil, hiddenAgain)} {
		if !impl.GoodAgain(l) {
			t.Error("no tasks are good")
		}
		rate, ok := impl.ByRate(l)
		wantOrder(t, "no tasks, by rate", rate, ok, nil)
		wantRun(t, l, 2, []int{-1, -1})
		wantLoad(t, l, 0, 1)
		wantAllInTime(t, l, true)
		wantNoSuchAgain(t, l, 0)
	}
}
