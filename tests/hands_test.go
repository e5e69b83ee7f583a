package tests

import (
	"fmt"
	"math"
	"slices"
	"testing"

	"loop.example/g00527/impl"
)

const (
	longestChore = 50
	mostDelay    = 100
	mostBetween  = 20
	mostArriving = 40
)

func way(delay, every int) impl.Way {
	return impl.Way{Delay: delay, Every: every}
}

// The ones from here on are written apart from the program, to be held against it.

// sumOfHand adds up the chores of one hand.
func sumOfHand(l []int, given []int, hand int) int {
	sum := 0
	for k, long := range l {
		if given[k] == hand {
			sum += long
		}
	}
	return sum
}

func spanByHands(l []int, hands int, given []int) int {
	span := 0
	for hand := range hands {
		span = max(span, sumOfHand(l, given, hand))
	}
	return span
}

// handedOut gives the chores in an order, each to the hand that stands first when all are sorted by what they have.
func handedOut(l []int, hands int, order []int) []int {
	type holder struct{ has, hand int }
	var holders []holder
	for hand := range hands {
		holders = append(holders, holder{0, hand})
	}
	given := make([]int, len(l))
	for _, k := range order {
		slices.SortFunc(holders, func(a, b holder) int { return 100*(a.has-b.has) + a.hand - b.hand })
		given[k] = holders[0].hand
		holders[0].has += l[k]
	}
	return given
}

// lengthsDown goes through all lengths from the greatest on.
func lengthsDown(l []int) []int {
	var order []int
	for long := longestChore; long >= 1; long-- {
		for k, x := range l {
			if x == long {
				order = append(order, k)
			}
		}
	}
	return order
}

// bestOfAll tries out all that may be given, one by one: they are counted up as digits.
func bestOfAll(l []int, hands int) int {
	given := make([]int, len(l))
	best := math.MaxInt
	for {
		best = min(best, spanByHands(l, hands, given))
		at := 0
		for at < len(given) && given[at] == hands-1 {
			given[at] = 0
			at++
		}
		if at == len(given) {
			return best
		}
		given[at]++
	}
}

// leastByTrying counts up to the first span that the longest chore and all hands together have room in.
func leastByTrying(l []int, hands int) int {
	sum, longest := 0, 0
	for _, long := range l {
		sum += long
		longest = max(longest, long)
	}
	span := 0
	for span < longest || span*hands < sum {
		span++
	}
	return span
}

// lastByTicks lets the letters arrive one by one.
func lastByTicks(ways []impl.Way, counts []int) int {
	last := 0
	for k, w := range ways {
		at := w.Delay
		for range counts[k] {
			last = max(last, at)
			at += w.Every
		}
	}
	return last
}

// soonestArrivals goes through time tick by tick, and through the ways at each, till all letters are there.
func soonestArrivals(ways []impl.Way, many int) []int {
	counts := make([]int, len(ways))
	for tick := 0; many > 0; tick++ {
		for k, w := range ways {
			if many > 0 && tick >= w.Delay && (tick-w.Delay)%w.Every == 0 {
				counts[k]++
				many--
			}
		}
	}
	return counts
}

// allCounts are all ways in which so many letters may be parted.
func allCounts(ways, many int) [][]int {
	if ways == 1 {
		return [][]int{{many}}
	}
	var all [][]int
	for first := range many + 1 {
		for _, rest := range allCounts(ways-1, many-first) {
			all = append(all, append([]int{first}, rest...))
		}
	}
	return all
}

// shakenChores are of any length, of few ones, long ones with short ones, nearly alike, or alike.
func shakenChores(many, kind int, next func(upto int) int) []int {
	var l []int
	alike := 1 + next(longestChore)
	for range many {
		switch kind {
		case 0:
			l = append(l, 1+next(longestChore))
		case 1:
			l = append(l, 1+next(3))
		case 2:
			l = append(l, 1+next(2)*(longestChore-1))
		case 3:
			l = append(l, 20+next(11))
		case 4:
			l = append(l, alike)
		default:
			l = append(l, 1+next(8))
		}
	}
	return l
}

func choresToTry(most, each int) [][]int {
	next := shaker(141)
	all := [][]int{nil, {}, {1}, {longestChore}}
	for many := 1; many <= most; many++ {
		for k := range each {
			all = append(all, shakenChores(many, k%6, next))
		}
		all = append(all, slices.Repeat([]int{1}, many), slices.Repeat([]int{longestChore}, many), fromBelow(1, many+1), turnedRound(fromBelow(1, many+1)))
	}
	return all
}

// smallChores are all lists of at most 4 chores with lengths up to 4.
func smallChores() [][]int {
	lists := [][]int{nil}
	for at := 0; len(lists[at]) < 4; at++ {
		for long := 1; long <= 4; long++ {
			lists = append(lists, append(slices.Clone(lists[at]), long))
		}
	}
	return lists
}

func shakenGiven(many, hands int, next func(upto int) int) []int {
	given := []int{}
	for range many {
		given = append(given, next(hands))
	}
	return given
}

func shakenWays(many, kind int, next func(upto int) int) []impl.Way {
	var ways []impl.Way
	alike := way(next(mostDelay+1), 1+next(mostBetween))
	for range many {
		switch kind {
		case 0:
			ways = append(ways, way(next(mostDelay+1), 1+next(mostBetween)))
		case 1:
			ways = append(ways, way(next(4), 1+next(3)))
		case 2:
			ways = append(ways, alike)
		case 3:
			ways = append(ways, way(next(2)*mostDelay, 1+next(2)*(mostBetween-1)))
		default:
			ways = append(ways, way(next(30), 1+next(6)))
		}
	}
	return ways
}

func waysToTry(each int) [][]impl.Way {
	next := shaker(142)
	all := [][]impl.Way{{way(0, 1)}, {way(0, mostBetween)}, {way(mostDelay, 1)}, {way(mostDelay, mostBetween)}}
	for many := 1; many <= impl.MaxWays; many++ {
		for k := range each {
			all = append(all, shakenWays(many, k%5, next))
		}
		all = append(all, slices.Repeat([]impl.Way{way(0, 1)}, many), slices.Repeat([]impl.Way{way(mostDelay, mostBetween)}, many))
	}
	return all
}

// shakenCounts are of any number, of few, of none among others, or of none and the most.
func shakenCounts(many, kind int, next func(upto int) int) []int {
	counts := []int{}
	for range many {
		switch kind {
		case 0:
			counts = append(counts, next(mostArriving+1))
		case 1:
			counts = append(counts, next(3))
		case 2:
			counts = append(counts, next(2)*next(mostArriving+1))
		default:
			counts = append(counts, next(2)*mostArriving)
		}
	}
	return counts
}

func wantGiven(t *testing.T, what string, got []int, span int, ok bool, want []int, wantSpan int) {
	t.Helper()
	if !ok || span != wantSpan || !slices.Equal(got, want) {
		t.Errorf("%s: %v, %d, %t, not %v, %d", what, got, span, ok, want, wantSpan)
	}
}

func wantInOrder(t *testing.T, l []int, hands int, want []int, span int) {
	t.Helper()
	given, n, ok := impl.GiveInOrder(l, hands)
	wantGiven(t, fmt.Sprint("GiveInOrder ", l, hands), given, n, ok, want, span)
}

func wantFromLongest(t *testing.T, l []int, hands int, want []int, span int) {
	t.Helper()
	given, n, ok := impl.GiveLongest(l, hands)
	wantGiven(t, fmt.Sprint("GiveLongest ", l, hands), given, n, ok, want, span)
}

func wantSpan(t *testing.T, l []int, hands int, given []int, want int) {
	t.Helper()
	if n, ok := impl.SpanOf(l, hands, given); n != want || !ok {
		t.Errorf("SpanOf(%v, %d, %v): %d, %t, not %d", l, hands, given, n, ok, want)
	}
}

func wantBestSpan(t *testing.T, l []int, hands int, want int) {
	t.Helper()
	if n, ok := impl.BestSpan(l, hands); n != want || !ok {
		t.Errorf("BestSpan(%v, %d): %d, %t, not %d", l, hands, n, ok, want)
	}
}

func wantLeastSpan(t *testing.T, l []int, hands int, want int) {
	t.Helper()
	if n, ok := impl.LeastSpan(l, hands); n != want || !ok {
		t.Errorf("LeastSpan(%v, %d): %d, %t, not %d", l, hands, n, ok, want)
	}
}

func wantArriving(t *testing.T, ways []impl.Way, many int, want []int, last int) {
	t.Helper()
	counts, n, ok := impl.ArriveAll(ways, many)
	wantGiven(t, fmt.Sprint("ArriveAll ", ways, many), counts, n, ok, want, last)
}

func wantLast(t *testing.T, ways []impl.Way, counts []int, want int) {
	t.Helper()
	if n, ok := impl.LastArrival(ways, counts); n != want || !ok {
		t.Errorf("LastArrival(%v, %v): %d, %t, not %d", ways, counts, n, ok, want)
	}
}

func wantNoSpan(t *testing.T, l []int, hands int, given []int) {
	t.Helper()
	if n, ok := impl.SpanOf(l, hands, given); n != 0 || ok {
		t.Errorf("SpanOf(%v, %d, %v): %d, %t", l, hands, given, n, ok)
	}
}

// wantNoChores holds all that takes chores to its zero answer.
func wantNoChores(t *testing.T, l []int, hands int) {
	t.Helper()
	if impl.GoodChores(l, hands) {
		t.Errorf("GoodChores(%v, %d)", l, hands)
	}
	if given, n, ok := impl.GiveInOrder(l, hands); ok || n != 0 || len(given) != 0 {
		t.Errorf("GiveInOrder(%v, %d): %v, %d, %t", l, hands, given, n, ok)
	}
	if given, n, ok := impl.GiveLongest(l, hands); ok || n != 0 || len(given) != 0 {
		t.Errorf("GiveLongest(%v, %d): %v, %d, %t", l, hands, given, n, ok)
	}
	if n, ok := impl.BestSpan(l, hands); n != 0 || ok {
		t.Errorf("BestSpan(%v, %d): %d, %t", l, hands, n, ok)
	}
	if n, ok := impl.LeastSpan(l, hands); n != 0 || ok {
		t.Errorf("LeastSpan(%v, %d): %d, %t", l, hands, n, ok)
	}
	for _, given := range [][]int{nil, {0}, make([]int, len(l)), make([]int, impl.MaxChores), l} {
		wantNoSpan(t, l, hands, given)
	}
}

func wantNoLast(t *testing.T, ways []impl.Way, counts []int) {
	t.Helper()
	if n, ok := impl.LastArrival(ways, counts); n != 0 || ok {
		t.Errorf("LastArrival(%v, %v): %d, %t", ways, counts, n, ok)
	}
}

// wantNoArriving ends the test at once: the next number may be so great that it is never counted up to.
func wantNoArriving(t *testing.T, ways []impl.Way, many int) {
	t.Helper()
	if counts, n, ok := impl.ArriveAll(ways, many); ok || n != 0 || len(counts) != 0 {
		t.Fatalf("ArriveAll(%v, %d): %v, %d, %t", ways, many, counts, n, ok)
	}
}

func TestLimitsOfHands(t *testing.T) {
	if impl.MaxHands != 4 || impl.MaxChores != 8 || impl.MaxWays != 4 {
		t.Error(impl.MaxHands, impl.MaxChores, impl.MaxWays)
	}
}

func TestChoresWithinTheirLimitsAreGood(t *testing.T) {
	for hands := -1; hands <= 6; hands++ {
		for long := -2; long <= 53; long++ {
			want := hands >= 1 && hands <= 4 && long >= 1 && long <= 50
			if impl.GoodChores([]int{long}, hands) != want {
				t.Errorf("GoodChores of %d for %d: %t", long, hands, !want)
			}
		}
		for many := range 12 {
			want := hands >= 1 && hands <= 4 && many <= 8
			for _, long := range []int{1, 7, 50} {
				if impl.GoodChores(slices.Repeat([]int{long}, many), hands) != want {
					t.Errorf("GoodChores of %d times %d for %d: %t", many, long, hands, !want)
				}
			}
		}
	}
	for _, l := range append(choresToTry(impl.MaxChores, 30), smallChores()...) {
		for hands := 1; hands <= impl.MaxHands; hands++ {
			if !impl.GoodChores(l, hands) {
				t.Errorf("GoodChores(%v, %d)", l, hands)
			}
		}
	}
}

func TestSpansOfWhatIsGiven(t *testing.T) {
	for _, x := range []struct {
		l     []int
		hands int
		given []int
		want  int
	}{
		{nil, 1, nil, 0},
		{nil, 4, []int{}, 0},
		{[]int{7}, 1, []int{0}, 7},
		{[]int{7}, 4, []int{3}, 7},
		{[]int{3, 3, 2, 2, 2}, 2, []int{0, 0, 1, 1, 1}, 6},
		{[]int{3, 3, 2, 2, 2}, 2, []int{0, 1, 0, 1, 0}, 7},
		{[]int{3, 3, 2, 2, 2}, 2, []int{1, 1, 1, 1, 1}, 12},
		{[]int{3, 3, 2, 2, 2}, 4, []int{0, 1, 2, 3, 2}, 4},
		{[]int{1, 50}, 2, []int{0, 1}, 50},
		{[]int{1, 50}, 2, []int{1, 0}, 50},
		{[]int{5, 6}, 3, []int{2, 2}, 11},
		{slices.Repeat([]int{50}, 8), 1, make([]int, 8), 400},
		{slices.Repeat([]int{50}, 8), 4, []int{0, 1, 2, 3, 0, 1, 2, 3}, 100},
		{slices.Repeat([]int{50}, 8), 4, slices.Repeat([]int{3}, 8), 400},
	} {
		wantSpan(t, x.l, x.hands, x.given, x.want)
	}
	next := shaker(143)
	for _, l := range append(choresToTry(impl.MaxChores, 60), smallChores()...) {
		for hands := 1; hands <= impl.MaxHands; hands++ {
			for range 4 {
				given := shakenGiven(len(l), hands, next)
				wantSpan(t, l, hands, given, spanByHands(l, hands, given))
			}
			for hand := range hands {
				// One hand alone has all of them.
				given := slices.Repeat([]int{hand}, len(l))
				wantSpan(t, l, hands, given, spanByHands(l, 1, make([]int, len(l))))
			}
		}
	}
}

func TestGivenInOrderByHand(t *testing.T) {
	for _, x := range []struct {
		l     []int
		hands int
		given []int
		span  int
	}{
		{nil, 1, nil, 0},
		{nil, 4, nil, 0},
		{[]int{9}, 1, []int{0}, 9},
		{[]int{9}, 4, []int{0}, 9},
		{[]int{3, 3, 2, 2, 2}, 2, []int{0, 1, 0, 1, 0}, 7},
		{[]int{3, 3, 2, 2, 2}, 1, []int{0, 0, 0, 0, 0}, 12},
		// Of as little ones the first, at the beginning and later on.
		{[]int{5, 5, 5, 5}, 3, []int{0, 1, 2, 0}, 10},
		{[]int{2, 1, 1, 4}, 2, []int{0, 1, 1, 0}, 6},
		{[]int{3, 1, 2, 6}, 3, []int{0, 1, 2, 1}, 7},
		{[]int{4, 4, 1, 3, 3}, 3, []int{0, 1, 2, 2, 0}, 7},
		// The worst that the order may be: the longest comes last.
		{[]int{1, 1, 2}, 2, []int{0, 1, 0}, 3},
		{[]int{1, 1, 1, 1, 1, 1, 3}, 3, []int{0, 1, 2, 0, 1, 2, 0}, 5},
		{[]int{49, 49, 50}, 2, []int{0, 1, 0}, 99},
		{[]int{50, 50, 50, 50, 50, 50, 50, 50}, 4, []int{0, 1, 2, 3, 0, 1, 2, 3}, 100},
		{[]int{50, 50, 50, 50, 50, 50, 50, 50}, 1, make([]int, 8), 400},
		{[]int{8, 7, 6, 5, 4, 3, 2, 1}, 4, []int{0, 1, 2, 3, 3, 2, 1, 0}, 9},
		{[]int{1, 2, 3, 4, 5, 6, 7, 8}, 4, []int{0, 1, 2, 3, 0, 1, 2, 3}, 12},
		{[]int{1, 1, 1, 9, 1, 1, 1, 1}, 4, []int{0, 1, 2, 3, 0, 1, 2, 0}, 9},
	} {
		wantInOrder(t, x.l, x.hands, x.given, x.span)
	}
}

func TestGivenFromTheLongestByHand(t *testing.T) {
	for _, x := range []struct {
		l     []int
		hands int
		given []int
		span  int
	}{
		{nil, 1, nil, 0},
		{nil, 4, nil, 0},
		{[]int{9}, 1, []int{0}, 9},
		{[]int{9}, 4, []int{0}, 9},
		{[]int{3, 3, 2, 2, 2}, 2, []int{0, 1, 0, 1, 0}, 7},
		// The hands stand at the chores' own numbers.
		{[]int{1, 2}, 2, []int{1, 0}, 2},
		{[]int{1, 3, 2}, 3, []int{2, 0, 1}, 3},
		{[]int{1, 1, 2}, 2, []int{1, 1, 0}, 2},
		{[]int{1, 2, 3, 4, 5, 6, 7, 8}, 4, []int{0, 1, 2, 3, 3, 2, 1, 0}, 9},
		{[]int{1, 1, 1, 1, 1, 1, 3}, 3, []int{1, 2, 1, 2, 1, 2, 0}, 3},
		// Of as long ones the first first.
		{[]int{5, 5, 5, 5}, 3, []int{0, 1, 2, 0}, 10},
		{[]int{2, 5, 2, 5, 2}, 4, []int{2, 0, 3, 1, 2}, 5},
		{[]int{4, 6, 4}, 3, []int{1, 0, 2}, 6},
		{[]int{4, 4, 6}, 2, []int{1, 1, 0}, 8},
		{[]int{1, 2, 1, 2, 1, 2, 1, 2}, 4, []int{0, 0, 1, 1, 2, 2, 3, 3}, 3},
		// The worst that can come of it.
		{[]int{5, 5, 4, 4, 3, 3, 3}, 3, []int{0, 1, 2, 2, 0, 1, 0}, 11},
		{[]int{3, 4, 3, 5, 3, 4, 5}, 3, []int{0, 2, 1, 0, 0, 2, 1}, 11},
		{[]int{50, 50, 50, 50, 50, 50, 50, 50}, 4, []int{0, 1, 2, 3, 0, 1, 2, 3}, 100},
		{[]int{50, 50, 50, 50, 50, 50, 50, 50}, 1, make([]int, 8), 400},
		// By numbers, not by digits.
		{[]int{9, 10, 50}, 3, []int{2, 1, 0}, 50},
	} {
		wantFromLongest(t, x.l, x.hands, x.given, x.span)
	}
}

func TestGivenChoreByChore(t *testing.T) {
	apart := 0
	for _, l := range append(choresToTry(impl.MaxChores, 240), smallChores()...) {
		for hands := 1; hands <= impl.MaxHands; hands++ {
			inOrder := handedOut(l, hands, fromBelow(0, len(l)))
			wantInOrder(t, l, hands, inOrder, spanByHands(l, hands, inOrder))
			wantSpan(t, l, hands, inOrder, spanByHands(l, hands, inOrder))
			longest := handedOut(l, hands, lengthsDown(l))
			wantFromLongest(t, l, hands, longest, spanByHands(l, hands, longest))
			wantSpan(t, l, hands, longest, spanByHands(l, hands, longest))
			if spanByHands(l, hands, inOrder) != spanByHands(l, hands, longest) {
				apart++
			}
		}
	}
	if apart < 300 {
		t.Error("too few take another time from the longest on:", apart)
	}
}

func TestLeastSpans(t *testing.T) {
	for _, x := range []struct {
		l    []int
		want [4]int
	}{
		{nil, [4]int{}},
		{[]int{}, [4]int{}},
		{[]int{1}, [4]int{1, 1, 1, 1}},
		{[]int{50}, [4]int{50, 50, 50, 50}},
		{[]int{3, 3, 2, 2, 2}, [4]int{12, 6, 4, 3}},
		{[]int{3, 3, 2, 2, 3}, [4]int{13, 7, 5, 4}},
		{[]int{1, 1, 9}, [4]int{11, 9, 9, 9}},
		{[]int{4, 4, 4, 4, 1}, [4]int{17, 9, 6, 5}},
		{slices.Repeat([]int{50}, 8), [4]int{400, 200, 134, 100}},
		{slices.Repeat([]int{1}, 8), [4]int{8, 4, 3, 2}},
	} {
		for k, want := range x.want {
			wantLeastSpan(t, x.l, k+1, want)
		}
	}
	for _, l := range append(choresToTry(impl.MaxChores, 60), smallChores()...) {
		for hands := 1; hands <= impl.MaxHands; hands++ {
			wantLeastSpan(t, l, hands, leastByTrying(l, hands))
		}
	}
}

func TestBestSpansByHand(t *testing.T) {
	for _, x := range []struct {
		l    []int
		want [4]int
	}{
		{nil, [4]int{}},
		{[]int{}, [4]int{}},
		{[]int{1}, [4]int{1, 1, 1, 1}},
		{[]int{50}, [4]int{50, 50, 50, 50}},
		{[]int{3, 3, 2, 2, 2}, [4]int{12, 6, 5, 4}},
		{[]int{2, 3, 2, 3, 2}, [4]int{12, 6, 5, 4}},
		{[]int{5, 5, 4, 4, 3, 3, 3}, [4]int{27, 14, 9, 8}},
		// More than LeastSpan tells.
		{[]int{2, 2, 2}, [4]int{6, 4, 2, 2}},
		{[]int{7, 7, 7, 7, 7}, [4]int{35, 21, 14, 14}},
		{[]int{1, 1, 1, 1, 1, 1, 3}, [4]int{9, 5, 3, 3}},
		{[]int{1, 2, 3, 4, 5, 6, 7, 8}, [4]int{36, 18, 12, 9}},
		{slices.Repeat([]int{50}, 8), [4]int{400, 200, 150, 100}},
		{slices.Repeat([]int{1}, 8), [4]int{8, 4, 3, 2}},
		{[]int{50, 49, 48, 47, 46, 45, 44, 43}, [4]int{372, 186, 137, 93}},
	} {
		for k, want := range x.want {
			wantBestSpan(t, x.l, k+1, want)
		}
	}
}

func TestBestOfAllThatMayBeGiven(t *testing.T) {
	more := 0
	for _, l := range append(choresToTry(6, 90), smallChores()...) {
		for hands := 1; hands <= impl.MaxHands; hands++ {
			best := bestOfAll(l, hands)
			wantBestSpan(t, l, hands, best)
			if least, ok := impl.LeastSpan(l, hands); !ok || least > best {
				t.Errorf("LeastSpan(%v, %d): %d, %t, but %d is enough", l, hands, least, ok, best)
			} else if least < best {
				more++
			}
			// Whatever the order in which they stand.
			wantBestSpan(t, turnedRound(l), hands, best)
		}
	}
	if more < 300 {
		t.Error("too few take longer than LeastSpan tells:", more)
	}
	next := shaker(144)
	for many := 7; many <= impl.MaxChores; many++ {
		for kind := range 12 {
			l := shakenChores(many, kind%6, next)
			for hands := 1; hands <= impl.MaxHands; hands++ {
				wantBestSpan(t, l, hands, bestOfAll(l, hands))
			}
		}
	}
}

// wantGraham holds both ways to give chores against the best, and tells whether each took longer than that.
func wantGraham(t *testing.T, l []int, hands int) (bool, bool) {
	t.Helper()
	best, ok := impl.BestSpan(l, hands)
	least, is := impl.LeastSpan(l, hands)
	if !ok || !is || least > best {
		t.Errorf("%v for %d: the best is %d, %t, the least %d, %t", l, hands, best, ok, least, is)
	}
	given, inOrder, ok := impl.GiveInOrder(l, hands)
	if !ok || len(l) > 0 && inOrder >= 2*best || inOrder < best {
		t.Errorf("GiveInOrder(%v, %d): %d, %t, where %d can be", l, hands, inOrder, ok, best)
	}
	wantSpan(t, l, hands, given, inOrder)
	given, longest, ok := impl.GiveLongest(l, hands)
	if !ok || 3*longest > 4*best || longest < best {
		t.Errorf("GiveLongest(%v, %d): %d, %t, where %d can be", l, hands, longest, ok, best)
	}
	wantSpan(t, l, hands, given, longest)
	if len(l) == 0 && (best != 0 || inOrder != 0 || longest != 0) {
		t.Errorf("no chores for %d: %d, %d, %d", hands, best, inOrder, longest)
	}
	return inOrder > best, longest > best
}

func TestNeverTwiceAsLongAndFourThirdsAtMost(t *testing.T) {
	longer, longerYet := 0, 0
	try := func(l []int) {
		for hands := 1; hands <= impl.MaxHands; hands++ {
			inOrder, longest := wantGraham(t, l, hands)
			if inOrder {
				longer++
			}
			if longest {
				longerYet++
			}
		}
	}
	for _, l := range append(choresToTry(impl.MaxChores, 150), smallChores()...) {
		try(l)
	}
	// Short ones ahead of a long one, and the lists that take longest from the longest on.
	for _, l := range [][]int{
		{1, 1, 2}, {50, 50, 50}, {49, 49, 50}, {24, 24, 48}, {1, 1, 1, 1, 1, 1, 3}, {8, 8, 8, 8, 8, 8, 24}, {16, 16, 16, 16, 16, 16, 48},
		{12, 12, 12, 12, 12, 12, 12, 50}, {1, 1, 1, 1, 1, 1, 1, 50}, {10, 10, 10, 10, 10, 10, 10, 30},
		{3, 3, 2, 2, 2}, {30, 30, 20, 20, 20}, {48, 48, 32, 32, 32}, {5, 5, 4, 4, 3, 3, 3}, {50, 50, 40, 40, 30, 30, 30}, {30, 30, 30, 40, 40, 50, 50},
	} {
		try(l)
	}
	if longer < 500 || longerYet < 100 {
		t.Error("too few take longer than the best to tell anything:", longer, longerYet)
	}
}

func TestMostChores(t *testing.T) {
	for hands := 1; hands <= impl.MaxHands; hands++ {
		full := slices.Repeat([]int{longestChore}, impl.MaxChores)
		wantGraham(t, full, hands)
		wantBestSpan(t, full, hands, longestChore*((impl.MaxChores+hands-1)/hands))
		wantNoChores(t, append(full, longestChore), hands)
		wantNoChores(t, append(full, 1), hands)
		wantNoChores(t, slices.Repeat([]int{1}, impl.MaxChores+1), hands)
	}
}

func TestLastArrivalsByHand(t *testing.T) {
	for _, x := range []struct {
		ways   []impl.Way
		counts []int
		want   int
	}{
		{[]impl.Way{way(0, 1)}, []int{0}, 0},
		{[]impl.Way{way(0, 1)}, []int{1}, 0},
		{[]impl.Way{way(0, 1)}, []int{2}, 1},
		{[]impl.Way{way(0, 1)}, []int{40}, 39},
		{[]impl.Way{way(7, 3)}, []int{1}, 7},
		{[]impl.Way{way(7, 3)}, []int{2}, 10},
		{[]impl.Way{way(100, 20)}, []int{1}, 100},
		{[]impl.Way{way(100, 20)}, []int{40}, 880},
		// A way that has none does not count, however late it would be.
		{[]impl.Way{way(100, 20)}, []int{0}, 0},
		{[]impl.Way{way(0, 3), way(1, 1)}, []int{3, 0}, 6},
		{[]impl.Way{way(0, 3), way(1, 1)}, []int{0, 3}, 3},
		{[]impl.Way{way(0, 3), way(1, 1)}, []int{0, 0}, 0},
		{[]impl.Way{way(5, 20), way(9, 1), way(100, 1)}, []int{1, 1, 0}, 9},
		{[]impl.Way{way(5, 20), way(9, 1), way(4, 1)}, []int{0, 0, 1}, 4},
		{[]impl.Way{way(9, 20), way(1, 1), way(1, 2), way(8, 5)}, []int{1, 9, 5, 1}, 9},
		{[]impl.Way{way(9, 20), way(1, 1), way(1, 2), way(8, 5)}, []int{1, 9, 6, 1}, 11},
		{[]impl.Way{way(9, 20), way(1, 1), way(1, 2), way(8, 5)}, []int{0, 0, 0, 0}, 0},
		// As many for each way as may be: together they may be more than 40.
		{slices.Repeat([]impl.Way{way(100, 20)}, 4), []int{40, 40, 40, 40}, 880},
	} {
		wantLast(t, x.ways, x.counts, x.want)
	}
}

func TestLastArrivalsLetterByLetter(t *testing.T) {
	next := shaker(145)
	for _, ways := range waysToTry(80) {
		for kind := range 8 {
			counts := shakenCounts(len(ways), kind%4, next)
			wantLast(t, ways, counts, lastByTicks(ways, counts))
		}
		nothing := make([]int, len(ways))
		wantLast(t, ways, nothing, 0)
		for k := range ways {
			// One way alone has letters.
			for _, many := range []int{1, 2, 17, mostArriving} {
				one := slices.Clone(nothing)
				one[k] = many
				wantLast(t, ways, one, ways[k].Delay+(many-1)*ways[k].Every)
			}
		}
	}
}

func TestArrivingByHand(t *testing.T) {
	for _, x := range []struct {
		ways   []impl.Way
		many   int
		counts []int
		last   int
	}{
		{[]impl.Way{way(0, 1)}, 0, []int{0}, 0},
		{[]impl.Way{way(100, 20)}, 0, []int{0}, 0},
		{[]impl.Way{way(5, 1), way(6, 1), way(7, 1), way(8, 1)}, 0, []int{0, 0, 0, 0}, 0},
		{[]impl.Way{way(0, 1)}, 1, []int{1}, 0},
		{[]impl.Way{way(100, 20)}, 40, []int{40}, 880},
		{[]impl.Way{way(0, 3), way(1, 1)}, 1, []int{1, 0}, 0},
		{[]impl.Way{way(0, 3), way(1, 1)}, 2, []int{1, 1}, 1},
		{[]impl.Way{way(0, 3), way(1, 1)}, 3, []int{1, 2}, 2},
		// Both at 3: the first one first.
		{[]impl.Way{way(0, 3), way(1, 1)}, 4, []int{2, 2}, 3},
		{[]impl.Way{way(0, 3), way(1, 1)}, 5, []int{2, 3}, 3},
		{[]impl.Way{way(1, 1), way(0, 3)}, 4, []int{3, 1}, 3},
		{[]impl.Way{way(1, 1), way(0, 3)}, 5, []int{3, 2}, 3},
		{[]impl.Way{way(4, 4), way(4, 4)}, 1, []int{1, 0}, 4},
		{[]impl.Way{way(4, 4), way(4, 4)}, 3, []int{2, 1}, 8},
		{slices.Repeat([]impl.Way{way(2, 5)}, 4), 6, []int{2, 2, 1, 1}, 7},
		{slices.Repeat([]impl.Way{way(2, 5)}, 4), 40, []int{10, 10, 10, 10}, 47},
		// When the next one arrives counts, not the Delay and not how many there are.
		{[]impl.Way{way(0, 20), way(10, 1)}, 12, []int{2, 10}, 20},
		{[]impl.Way{way(0, 20), way(10, 1)}, 11, []int{1, 10}, 19},
		{[]impl.Way{way(0, 1), way(40, 1)}, 40, []int{40, 0}, 39},
		{[]impl.Way{way(0, 1), way(39, 1)}, 40, []int{40, 0}, 39},
		{[]impl.Way{way(39, 1), way(0, 1)}, 40, []int{1, 39}, 39},
		{[]impl.Way{way(3, 20), way(2, 20), way(1, 20), way(0, 20)}, 3, []int{0, 1, 1, 1}, 2},
	} {
		wantArriving(t, x.ways, x.many, x.counts, x.last)
	}
}

func TestArrivingTickByTick(t *testing.T) {
	for _, ways := range waysToTry(60) {
		for many := range mostArriving + 1 {
			counts := soonestArrivals(ways, many)
			wantArriving(t, ways, many, counts, lastByTicks(ways, counts))
			wantLast(t, ways, counts, lastByTicks(ways, counts))
		}
	}
}

func TestNoOtherCountsHaveAllThereSooner(t *testing.T) {
	later := 0
	for _, ways := range waysToTry(40) {
		for many := range 10 {
			got, last, ok := impl.ArriveAll(ways, many)
			all := allCounts(len(ways), many)
			if !ok || !slices.ContainsFunc(all, func(counts []int) bool { return slices.Equal(counts, got) }) {
				t.Errorf("ArriveAll(%v, %d): %v, %t", ways, many, got, ok)
			}
			for _, counts := range all {
				other, ok := impl.LastArrival(ways, counts)
				if !ok || other < last {
					t.Errorf("ArriveAll(%v, %d): %v, all there at %d, but with %v at %d, %t", ways, many, got, last, counts, other, ok)
				}
				if other > last {
					later++
				}
			}
		}
	}
	if later < 10000 {
		t.Error("too few other counts are later:", later)
	}
	for _, ways := range [][]impl.Way{{way(0, 7), way(30, 1)}, {way(9, 20), way(100, 1)}, {way(0, 2), way(3, 1), way(20, 1)}} {
		_, last, _ := impl.ArriveAll(ways, mostArriving)
		for _, counts := range allCounts(len(ways), mostArriving) {
			if other, ok := impl.LastArrival(ways, counts); !ok || other < last {
				t.Errorf("ArriveAll(%v): all there at %d, but with %v at %d, %t", ways, last, counts, other, ok)
			}
		}
	}
}

// wrongLengths, wrongHands, wrongDelays, wrongBetweens and wrongManys are just beyond their limits, and far beyond.
var (
	farInts       = []int{-1000, 1000, 1 << 32, 1<<32 + 1, math.MinInt, math.MinInt + 1, math.MinInt / 2, math.MaxInt / 2, math.MaxInt - 1, math.MaxInt}
	wrongLengths  = append([]int{0, -1, -50, 51, 52}, farInts...)
	wrongHands    = append([]int{0, -1, -4, impl.MaxHands + 1, impl.MaxHands + 2}, farInts...)
	wrongDelays   = append([]int{-1, -2, -100, 101, 102}, farInts...)
	wrongBetweens = append([]int{0, -1, -20, 21, 22}, farInts...)
	wrongManys    = append([]int{-1, -2, -40, 41, 42}, farInts...)
)

func TestWrongChoresAreRefused(t *testing.T) {
	for _, long := range wrongLengths {
		for many := 1; many <= impl.MaxChores; many++ {
			for at := range many {
				for _, other := range []int{1, 9, longestChore} {
					l := slices.Repeat([]int{other}, many)
					l[at] = long
					wantNoChores(t, l, 1+at%impl.MaxHands)
				}
			}
			wantNoChores(t, slices.Repeat([]int{long}, many), impl.MaxHands)
		}
		for _, hands := range wrongHands {
			wantNoChores(t, []int{long}, hands)
		}
	}
	for _, many := range []int{impl.MaxChores + 1, impl.MaxChores + 2, 64, 100000} {
		for hands := 1; hands <= impl.MaxHands; hands++ {
			wantNoChores(t, slices.Repeat([]int{1}, many), hands)
			wantNoChores(t, make([]int, many), hands)
		}
	}
}

func TestWrongHandsAreRefused(t *testing.T) {
	for _, hands := range wrongHands {
		for _, l := range append(choresToTry(impl.MaxChores, 6), nil, []int{}, []int{0}) {
			wantNoChores(t, l, hands)
		}
	}
}

func TestWrongGivenListsAreRefused(t *testing.T) {
	next := shaker(146)
	for _, l := range choresToTry(impl.MaxChores, 6) {
		for hands := 1; hands <= impl.MaxHands; hands++ {
			given := shakenGiven(len(l), hands, next)
			wantNoSpan(t, l, hands, append(slices.Clone(given), 0))
			wantNoSpan(t, l, hands, append(slices.Clone(given), hands-1))
			wantNoSpan(t, l, hands, slices.Concat(given, given, []int{0}))
			wantNoSpan(t, l, hands, make([]int, 100000))
			for at := range given {
				wantNoSpan(t, l, hands, given[:at])
				for _, hand := range append([]int{-1, -2, -hands, hands, hands + 1, 4, 5}, farInts...) {
					if hand < 0 || hand >= hands {
						wrong := slices.Clone(given)
						wrong[at] = hand
						wantNoSpan(t, l, hands, wrong)
					}
				}
			}
		}
	}
}

func TestWrongWaysAreRefused(t *testing.T) {
	var wrong [][]impl.Way
	for many := 1; many <= impl.MaxWays; many++ {
		for at := range many {
			put := func(w impl.Way) {
				ways := slices.Repeat([]impl.Way{way(3, 2)}, many)
				ways[at] = w
				wrong = append(wrong, ways)
			}
			for _, delay := range wrongDelays {
				put(way(delay, 1))
				put(way(delay, mostBetween))
				put(way(delay, 0))
			}
			for _, every := range wrongBetweens {
				put(way(0, every))
				put(way(mostDelay, every))
				put(way(every, every))
			}
			put(way(math.MaxInt, math.MinInt))
			put(impl.Way{})
		}
	}
	wrong = append(wrong, nil, []impl.Way{}, withHidden([]impl.Way{}, way(3, 2)))
	for _, many := range []int{impl.MaxWays + 1, impl.MaxWays + 2, 64, 1000} {
		wrong = append(wrong, slices.Repeat([]impl.Way{way(0, 1)}, many), make([]impl.Way, many))
	}
	for _, ways := range wrong {
		for _, many := range []int{0, 1, 7, mostArriving, -1, mostArriving + 1, math.MinInt, math.MaxInt} {
			wantNoArriving(t, ways, many)
		}
		for _, counts := range [][]int{nil, {}, {0}, {1}, make([]int, len(ways)), slices.Repeat([]int{1}, len(ways)), slices.Repeat([]int{-1}, len(ways))} {
			wantNoLast(t, ways, counts)
		}
	}
}

func TestWrongNumbersOfLettersAreRefused(t *testing.T) {
	for _, ways := range waysToTry(10) {
		for _, many := range wrongManys {
			wantNoArriving(t, ways, many)
			for at := range ways {
				for _, other := range []int{0, 1, mostArriving} {
					counts := slices.Repeat([]int{other}, len(ways))
					counts[at] = many
					wantNoLast(t, ways, counts)
				}
			}
			wantNoLast(t, ways, slices.Repeat([]int{many}, len(ways)))
		}
		for many := range 7 {
			if many != len(ways) {
				wantNoLast(t, ways, make([]int, many))
				wantNoLast(t, ways, slices.Repeat([]int{1}, many))
			}
		}
		wantNoLast(t, ways, make([]int, 100000))
	}
}

func TestWaysWithinTheirLimits(t *testing.T) {
	for delay := range mostDelay + 1 {
		for every := 1; every <= mostBetween; every++ {
			wantLast(t, []impl.Way{way(delay, every)}, []int{mostArriving}, delay+39*every)
			wantArriving(t, []impl.Way{way(delay, every)}, 2, []int{2}, delay+every)
		}
	}
	for many := range mostArriving + 1 {
		wantArriving(t, []impl.Way{way(1, 1)}, many, []int{many}, many)
	}
}

// hiddenWay stands behind the lists' lengths.
var hiddenWay = way(-7, -7)

func TestChoresAreNotWrittenInto(t *testing.T) {
	next := shaker(147)
	lists := slices.Concat(choresToTry(impl.MaxChores, 12), smallChores(), [][]int{{0}, {3, 51}, {-1, 5}, slices.Repeat([]int{2}, impl.MaxChores+1)})
	for _, were := range lists {
		for _, hands := range []int{1, 2, 3, 4, 0, 5} {
			l := withHidden(were, hiddenNumber)
			given, _, _ := impl.GiveInOrder(l, hands)
			wrecked(t, "GiveInOrder", given, hiddenNumber)
			wantUnchanged(t, "GiveInOrder", l, were, hiddenNumber)
			given, _, _ = impl.GiveLongest(l, hands)
			wrecked(t, "GiveLongest", given, hiddenNumber)
			wantUnchanged(t, "GiveLongest", l, were, hiddenNumber)
			impl.GoodChores(l, hands)
			impl.BestSpan(l, hands)
			impl.LeastSpan(l, hands)
			wantUnchanged(t, "the asking ones", l, were, hiddenNumber)
			for _, wereGiven := range [][]int{shakenGiven(len(l), max(hands, 1), next), nil, {0}, {-1}, slices.Repeat([]int{hands}, len(l))} {
				given := withHidden(wereGiven, hiddenNumber)
				impl.SpanOf(l, hands, given)
				wantUnchanged(t, "SpanOf, what is given", given, wereGiven, hiddenNumber)
				wantUnchanged(t, "SpanOf, the chores", l, were, hiddenNumber)
			}
		}
	}
}

func TestChoresBehindAListAreNotRead(t *testing.T) {
	next := shaker(148)
	for _, were := range append(choresToTry(impl.MaxChores, 12), smallChores()...) {
		// What is hidden is wrong in one, and good in the other.
		for _, hidden := range []int{hiddenNumber, 1} {
			l := withHidden(were, hidden)
			for hands := 1; hands <= impl.MaxHands; hands++ {
				if !impl.GoodChores(l, hands) {
					t.Errorf("GoodChores(%v, %d)", l, hands)
				}
				inOrder := handedOut(were, hands, fromBelow(0, len(l)))
				wantInOrder(t, l, hands, inOrder, spanByHands(were, hands, inOrder))
				longest := handedOut(were, hands, lengthsDown(were))
				wantFromLongest(t, l, hands, longest, spanByHands(were, hands, longest))
				best, _ := impl.BestSpan(were, hands)
				wantBestSpan(t, l, hands, best)
				wantLeastSpan(t, l, hands, leastByTrying(were, hands))
				given := shakenGiven(len(l), hands, next)
				wantSpan(t, l, hands, withHidden(given, 0), spanByHands(were, hands, given))
				if len(l) > 0 {
					// What is missing stands just behind the length.
					wantNoSpan(t, l, hands, given[:len(l)-1])
					wantNoSpan(t, l[:len(l)-1], hands, given)
				}
			}
		}
	}
}

func TestWaysAreNotWrittenInto(t *testing.T) {
	next := shaker(149)
	lists := append(waysToTry(12), nil, []impl.Way{}, []impl.Way{way(1, 0)}, []impl.Way{way(1, 1), way(-1, 1)}, slices.Repeat([]impl.Way{way(1, 1)}, impl.MaxWays+1))
	for _, were := range lists {
		ways := withHidden(were, hiddenWay)
		for _, many := range []int{0, 1, 9, mostArriving, -1, mostArriving + 1} {
			counts, last, ok := impl.ArriveAll(ways, many)
			plain, plainLast, same := impl.ArriveAll(were, many)
			if !slices.Equal(counts, plain) || last != plainLast || ok != same {
				t.Errorf("ArriveAll(%v, %d): %v, %d, %t, and %v, %d, %t", were, many, counts, last, ok, plain, plainLast, same)
			}
			wrecked(t, "ArriveAll", counts, hiddenNumber)
			wantUnchanged(t, "ArriveAll", ways, were, hiddenWay)
		}
		for _, wereCounts := range [][]int{shakenCounts(len(were), 0, next), shakenCounts(len(were), 2, next), nil, {0}, {-1}, {41, 0}, make([]int, len(were))} {
			counts := withHidden(wereCounts, hiddenNumber)
			last, ok := impl.LastArrival(ways, counts)
			plain, same := impl.LastArrival(were, wereCounts)
			if last != plain || ok != same {
				t.Errorf("LastArrival(%v, %v): %d, %t, and %d, %t", were, wereCounts, last, ok, plain, same)
			}
			wantUnchanged(t, "LastArrival, the counts", counts, wereCounts, hiddenNumber)
			wantUnchanged(t, "LastArrival, the ways", ways, were, hiddenWay)
		}
	}
}

func TestWaysBehindAListAreNotRead(t *testing.T) {
	// Good ones lie behind, sooner than those in the list.
	piece := []impl.Way{way(50, 2), way(40, 3), way(30, 1), way(0, 1), way(0, 1), way(0, 1)}
	counts := []int{3, 2, 4, 40, 40, 40}
	for many := 1; many <= impl.MaxWays; many++ {
		wantLast(t, piece[:many], counts[:many], lastByTicks(piece[:many], counts[:many]))
		for _, letters := range []int{0, 1, 5, mostArriving} {
			want := soonestArrivals(piece[:many], letters)
			wantArriving(t, piece[:many], letters, want, lastByTicks(piece[:many], want))
		}
		// What is missing stands just behind the length.
		wantNoLast(t, piece[:many], counts[:many-1])
		wantNoLast(t, piece[:many-1], counts[:many])
	}
	wantNoArriving(t, piece[:0], 1)
	wantNoLast(t, piece[:0], counts[:0])
}

func TestNilAndEmptyListsOfChoresAreAlike(t *testing.T) {
	for _, l := range [][]int{nil, {}, withHidden[int](nil, 1)} {
		for hands := 1; hands <= impl.MaxHands; hands++ {
			if !impl.GoodChores(l, hands) {
				t.Error("no chores are good")
			}
			wantInOrder(t, l, hands, nil, 0)
			wantFromLongest(t, l, hands, nil, 0)
			wantBestSpan(t, l, hands, 0)
			wantLeastSpan(t, l, hands, 0)
			for _, given := range [][]int{nil, {}, withHidden[int](nil, 0)} {
				wantSpan(t, l, hands, given, 0)
			}
			wantNoSpan(t, l, hands, []int{0})
		}
	}
}

func TestAnswersOfHandsAreApart(t *testing.T) {
	for _, l := range choresToTry(impl.MaxChores, 12) {
		for hands := 1; hands <= impl.MaxHands; hands++ {
			own := slices.Clone(l)
			lists := [][]int{own}
			for range 2 {
				inOrder, _, _ := impl.GiveInOrder(own, hands)
				longest, _, _ := impl.GiveLongest(own, hands)
				lists = append(lists, inOrder[:cap(inOrder)], longest[:cap(longest)])
			}
			wantApart(t, fmt.Sprint("of ", l), lists)
		}
	}
	for _, ways := range waysToTry(6) {
		var lists [][]int
		for _, many := range []int{0, 0, 5, 5, mostArriving, mostArriving} {
			counts, _, _ := impl.ArriveAll(ways, many)
			lists = append(lists, counts[:cap(counts)])
		}
		wantApart(t, fmt.Sprint("of ", ways), lists)
	}
}

func TestHandsHangOnWhatIsGivenAlone(t *testing.T) {
	l := []int{5, 5, 4, 4, 3, 3, 3}
	ways := []impl.Way{way(0, 3), way(1, 1)}
	for range 3 {
		wantFromLongest(t, l, 3, []int{0, 1, 2, 2, 0, 1, 0}, 11)
		wantNoChores(t, l, 5)
		wantInOrder(t, l, 2, []int{0, 1, 0, 1, 0, 1, 0}, 15)
		wantBestSpan(t, l, 3, 9)
		wantNoChores(t, []int{51}, 3)
		wantLeastSpan(t, l, 4, 7)
		wantSpan(t, l, 2, []int{0, 0, 1, 1, 1, 1, 0}, 14)
		wantNoSpan(t, l, 2, []int{0, 0, 1, 1, 1, 1, 2})
		wantBestSpan(t, l, 2, 14)
		wantArriving(t, ways, 4, []int{2, 2}, 3)
		wantNoArriving(t, ways, 41)
		wantLast(t, ways, []int{3, 0}, 6)
		wantNoLast(t, ways, []int{3})
		wantArriving(t, ways, 3, []int{1, 2}, 2)
	}
}
