package tests

import (
	"math"
	"slices"
	"testing"

	"loop.example/g00527/impl"
)

// most is the greatest End, Rank and Id.
const most = 1000000

func work(end, rank, id int) impl.Work {
	return impl.Work{End: end, Rank: rank, Id: id}
}

func ends(all ...int) []impl.Work {
	var l []impl.Work
	for _, end := range all {
		l = append(l, work(end, 0, 0))
	}
	return l
}

// isLess, sunk and risen are written apart from the program, to be held against it.
func isLess(a, b impl.Work) bool {
	if a.End != b.End {
		return a.End < b.End
	}
	if a.Rank != b.Rank {
		return a.Rank < b.Rank
	}
	return a.Id < b.Id
}

func sunk(l []impl.Work, k int) int {
	best := k
	for child := 2*k + 1; child <= 2*k+2 && child < len(l); child++ {
		if isLess(l[child], l[best]) {
			best = child
		}
	}
	if best == k {
		return 0
	}
	l[k], l[best] = l[best], l[k]
	return 1 + sunk(l, best)
}

func risen(l []impl.Work, k int) int {
	for parent := range k {
		if (k == 2*parent+1 || k == 2*parent+2) && isLess(l[k], l[parent]) {
			l[k], l[parent] = l[parent], l[k]
			return 1 + risen(l, parent)
		}
	}
	return 0
}

func isHeap(l []impl.Work) bool {
	for k, x := range l {
		for child := 2*k + 1; child <= 2*k+2 && child < len(l); child++ {
			if isLess(l[child], x) {
				return false
			}
		}
	}
	return true
}

func heapOf(l []impl.Work) ([]impl.Work, int) {
	h, steps := slices.Clone(l), 0
	for k := len(h) - 1; k >= 0; k-- {
		steps += sunk(h, k)
	}
	return h, steps
}

func heapWith(h []impl.Work, x impl.Work) []impl.Work {
	l := append(slices.Clone(h), x)
	risen(l, len(h))
	return l
}

func heapWithout(h []impl.Work, k int) []impl.Work {
	last := len(h) - 1
	l := slices.Clone(h[:last])
	if k < last {
		l[k] = h[last]
		if risen(l, k) == 0 {
			sunk(l, k)
		}
	}
	return l
}

// inTurn sorts by putting each ahead of the first that it is less than.
func inTurn(l []impl.Work) []impl.Work {
	var sorted []impl.Work
	for _, x := range l {
		at := 0
		for at < len(sorted) && !isLess(x, sorted[at]) {
			at++
		}
		sorted = slices.Insert(sorted, at, x)
	}
	return sorted
}

// mixed gives many that look shaken, with numbers less than upto: the same ones at each run.
func mixed(many, upto, seed int) []impl.Work {
	n := seed*7919 + 17
	next := func() int {
		n = (n*1103515245 + 12345) % (1 << 31)
		return (n >> 8) % upto
	}
	var l []impl.Work
	for range many {
		l = append(l, work(next(), next(), next()))
	}
	return l
}

// workLists are lists of every length up to MaxHeap: rising, falling, all alike, and shaken with few and with many numbers.
func workLists() [][]impl.Work {
	var lists [][]impl.Work
	for many := range impl.MaxHeap + 1 {
		var rising, falling, alike []impl.Work
		for k := range many {
			rising = append(rising, work(k, 0, 0))
			falling = append(falling, work(5, most-k, k))
			alike = append(alike, work(most, most, most))
		}
		lists = append(lists, rising, falling, alike)
		for seed := range 6 {
			lists = append(lists, mixed(many, 2, seed), mixed(many, 9, seed), mixed(many, most+1, seed))
		}
	}
	return lists
}

// shortLists are all lists of at most 6 with the Ends 0, 1 and 2.
func shortLists() [][]impl.Work {
	lists := [][]impl.Work{nil}
	for at := 0; at < len(lists) && len(lists[at]) < 6; at++ {
		for end := range 3 {
			lists = append(lists, append(slices.Clone(lists[at]), work(end, 0, 0)))
		}
	}
	return lists
}

func heapsToTry() [][]impl.Work {
	var heaps [][]impl.Work
	for _, l := range append(workLists(), shortLists()...) {
		if isHeap(l) {
			heaps = append(heaps, l)
		} else if h, _ := heapOf(l); len(l) > 6 {
			heaps = append(heaps, h)
		}
	}
	return heaps
}

func wantWorks(t *testing.T, what string, got []impl.Work, ok bool, want []impl.Work) {
	t.Helper()
	if !ok || !slices.Equal(got, want) {
		t.Errorf("%s: %v, %t, not %v", what, got, ok, want)
	}
}

// wantLeastFirst looks at what promise 3 says of a heap, without a heap of the test's own to hold it against.
func wantLeastFirst(t *testing.T, what string, h []impl.Work, members []impl.Work) {
	t.Helper()
	sorted := inTurn(members)
	if !slices.Equal(inTurn(h), sorted) {
		t.Errorf("%s: %v has not the same as %v", what, h, members)
	} else if len(h) > 0 && h[0] != sorted[0] {
		t.Errorf("%s: the first of %v is not the least", what, h)
	}
	if is, ok := impl.IsHeap(h); !is || !ok || !isHeap(h) {
		t.Errorf("%s: %v is no heap, or is said to be none (%t, %t)", what, h, is, ok)
	}
}

func TestLimitOfHeaps(t *testing.T) {
	if impl.MaxHeap != 40 {
		t.Error(impl.MaxHeap)
	}
}

func TestLessByEndThenRankThenId(t *testing.T) {
	var all []impl.Work
	few := []int{0, 1, 2, most - 1, most}
	for _, end := range few {
		for _, rank := range few {
			for _, id := range few {
				all = append(all, work(end, rank, id))
			}
		}
	}
	for k, a := range all {
		for m, b := range all {
			if less, ok := impl.LessWork(a, b); less != (k < m) || !ok {
				t.Errorf("LessWork(%v, %v): %t, %t", a, b, less, ok)
			}
		}
	}
}

func TestWhatIsAHeap(t *testing.T) {
	for _, l := range append(workLists(), shortLists()...) {
		if is, ok := impl.IsHeap(l); is != isHeap(l) || !ok {
			t.Errorf("IsHeap(%v): %t, %t", l, is, ok)
		}
	}
	for k := 1; k < impl.MaxHeap; k++ {
		l := make([]impl.Work, impl.MaxHeap)
		for m := range l {
			l[m] = work(7, 7, 7)
		}
		l[k] = work(7, 7, 6)
		if is, ok := impl.IsHeap(l); is || !ok {
			t.Errorf("the one at %d is less than the one ahead of it: %t, %t", k, is, ok)
		}
	}
}

func TestPushedOnesGoUp(t *testing.T) {
	h, ok := impl.PushHeap(ends(1, 4, 2, 6, 5, 3), work(0, 0, 0))
	wantWorks(t, "to the front", h, ok, ends(0, 4, 1, 6, 5, 3, 2))
	h, ok = impl.PushHeap(ends(1, 4, 2, 6, 5, 3), work(9, 0, 0))
	wantWorks(t, "not at all", h, ok, ends(1, 4, 2, 6, 5, 3, 9))
	h, ok = impl.PushHeap(ends(1, 4, 2, 6), work(3, 0, 0))
	wantWorks(t, "by one place", h, ok, ends(1, 3, 2, 6, 4))
	h, ok = impl.PushHeap(nil, work(most, most, most))
	wantWorks(t, "into none", h, ok, []impl.Work{work(most, most, most)})
	for _, l := range heapsToTry() {
		if len(l) == impl.MaxHeap {
			continue
		}
		for _, x := range []impl.Work{work(0, 0, 0), work(1, 0, 0), work(1, 1, 1), work(2, 0, 0), work(5, most-7, 0), work(most/2, 3, 3), work(most, most, most)} {
			h, ok := impl.PushHeap(l, x)
			wantWorks(t, "PushHeap", h, ok, heapWith(l, x))
			wantLeastFirst(t, "PushHeap", h, append(slices.Clone(l), x))
		}
	}
}

func TestTheLastComesToTheFront(t *testing.T) {
	h, x, ok := impl.PopHeap(ends(1, 2, 3, 6, 5, 4))
	wantWorks(t, "down on the first side", h, ok, ends(2, 4, 3, 6, 5))
	if x != work(1, 0, 0) {
		t.Error(x)
	}
	h, _, ok = impl.PopHeap(ends(1, 3, 2, 6, 5, 4))
	wantWorks(t, "down on the second side", h, ok, ends(2, 3, 4, 6, 5))
	h, _, ok = impl.PopHeap(ends(1, 2, 2, 9, 9, 9, 9))
	wantWorks(t, "the first of alike ones", h, ok, ends(2, 9, 2, 9, 9, 9))
	h, _, ok = impl.PopHeap(ends(1, 1, 1, 1))
	wantWorks(t, "alike ones stay", h, ok, ends(1, 1, 1))
	h, x, ok = impl.PopHeap(ends(8))
	wantWorks(t, "of one", h, ok, nil)
	if x != work(8, 0, 0) {
		t.Error(x)
	}
	for _, l := range heapsToTry() {
		if len(l) == 0 {
			continue
		}
		h, x, ok := impl.PopHeap(l)
		wantWorks(t, "PopHeap", h, ok, heapWithout(l, 0))
		wantLeastFirst(t, "PopHeap", h, l[1:])
		if x != l[0] {
			t.Errorf("PopHeap(%v) gives %v", l, x)
		}
	}
}

func TestAllComeAndGoInTurn(t *testing.T) {
	for _, l := range workLists() {
		var h, gone []impl.Work
		ok := true
		for k, x := range l {
			h, ok = impl.PushHeap(h, x)
			if !ok || len(h) != k+1 || h[0] != inTurn(l[:k+1])[0] {
				t.Fatalf("after %d of %v: %v, %t", k+1, l, h, ok)
			}
		}
		for range l {
			var x impl.Work
			h, x, ok = impl.PopHeap(h)
			if !ok {
				t.Fatalf("%v", l)
			}
			gone = append(gone, x)
		}
		if len(h) != 0 {
			t.Errorf("left of %v: %v", l, h)
		}
		wantWorks(t, "one by one", gone, true, inTurn(l))
	}
}

func TestAnyListIsMadeAHeap(t *testing.T) {
	for _, x := range []struct {
		list, heap []impl.Work
		steps      int
	}{
		{nil, nil, 0},
		{ends(7), ends(7), 0},
		{ends(1, 2), ends(1, 2), 0},
		{ends(2, 1), ends(1, 2), 1},
		{ends(2, 2), ends(2, 2), 0},
		{ends(3, 1, 1), ends(1, 3, 1), 1},
		{ends(7, 6, 5, 4, 3, 2, 1), ends(1, 3, 2, 4, 6, 7, 5), 4},
		{ends(9, 1, 8, 2, 3, 4, 5, 7), ends(1, 2, 4, 7, 3, 8, 5, 9), 4},
		{ends(1, 2, 3, 4, 5, 6, 7), ends(1, 2, 3, 4, 5, 6, 7), 0},
	} {
		h, ok := impl.MakeHeap(x.list)
		wantWorks(t, "MakeHeap", h, ok, x.heap)
		if steps, ok := impl.StepsToMake(x.list); steps != x.steps || !ok {
			t.Errorf("StepsToMake(%v): %d, %t, not %d", x.list, steps, ok, x.steps)
		}
	}
	for _, l := range append(workLists(), shortLists()...) {
		want, many := heapOf(l)
		h, ok := impl.MakeHeap(l)
		wantWorks(t, "MakeHeap", h, ok, want)
		wantLeastFirst(t, "MakeHeap", h, l)
		steps, ok := impl.StepsToMake(l)
		if steps != many || !ok {
			t.Errorf("StepsToMake(%v): %d, %t, not %d", l, steps, ok, many)
		}
		if len(l) > 0 && steps >= len(l) {
			t.Errorf("StepsToMake(%v): %d, not fewer than %d", l, steps, len(l))
		}
		if again, ok := impl.StepsToMake(h); again != 0 || !ok {
			t.Errorf("StepsToMake of the heap %v: %d, %t", h, again, ok)
		}
	}
}

func TestFewerStepsThanThereAre(t *testing.T) {
	// The greatest first, and below it each half likewise: every one goes down as deep as can be.
	for _, many := range []int{1, 3, 7, 15, 31} {
		l := make([]impl.Work, many)
		for k := range l {
			l[k] = work(many-k, 0, 0)
		}
		deepest := many
		for left := many; left > 0; left /= 2 {
			deepest--
		}
		if steps, ok := impl.StepsToMake(l); steps != deepest || !ok {
			t.Errorf("StepsToMake of %d that fall: %d, %t, not %d", many, steps, ok, deepest)
		}
	}
}

func TestSortedFromTheLeastOn(t *testing.T) {
	sorted, ok := impl.SortWork([]impl.Work{work(2, 0, 0), work(1, 1, 0), work(1, 0, 5), work(1, 1, 0), work(0, 9, 9), work(1, 0, 4)})
	wantWorks(t, "SortWork", sorted, ok, []impl.Work{work(0, 9, 9), work(1, 0, 4), work(1, 0, 5), work(1, 1, 0), work(1, 1, 0), work(2, 0, 0)})
	for _, l := range append(workLists(), shortLists()...) {
		sorted, ok := impl.SortWork(l)
		wantWorks(t, "SortWork", sorted, ok, inTurn(l))
	}
}

func TestRemovedAtEveryPlace(t *testing.T) {
	for _, x := range []struct {
		what string
		heap []impl.Work
		k    int
		left []impl.Work
	}{
		{"the only one", ends(4), 0, nil},
		{"the front", ends(1, 2, 3, 6, 5, 4), 0, ends(2, 4, 3, 6, 5)},
		{"the last", ends(1, 2, 3, 6, 5, 4), 5, ends(1, 2, 3, 6, 5)},
		{"the last one goes up", ends(1, 9, 2, 10, 11, 3, 4), 3, ends(1, 4, 2, 9, 11, 3)},
		{"the last one goes up by two", ends(1, 9, 2, 10, 11, 3, 4, 12, 13, 14, 15, 5, 6, 7, 8), 7, ends(1, 8, 2, 9, 11, 3, 4, 10, 13, 14, 15, 5, 6, 7)},
		{"the last one goes down", ends(1, 2, 3, 4, 5, 6, 7, 8, 9), 1, ends(1, 4, 3, 8, 5, 6, 7, 9)},
		{"the last one goes down by one", ends(1, 2, 3, 4, 5, 7, 8, 9, 9, 9, 6), 1, ends(1, 4, 3, 6, 5, 7, 8, 9, 9, 9)},
		{"the last one stays", ends(1, 2, 3, 4, 5, 6, 7), 2, ends(1, 2, 6, 4, 5, 7)},
		{"the last one stays indeed", ends(1, 2, 5, 3, 4, 9, 5), 2, ends(1, 2, 5, 3, 4, 9)},
	} {
		left, ok := impl.RemoveAt(x.heap, x.k)
		wantWorks(t, x.what, left, ok, x.left)
	}
	ups, downs := 0, 0
	for _, l := range heapsToTry() {
		for k := range l {
			left, ok := impl.RemoveAt(l, k)
			wantWorks(t, "RemoveAt", left, ok, heapWithout(l, k))
			wantLeastFirst(t, "RemoveAt", left, slices.Delete(slices.Clone(l), k, k+1))
			if last := len(l) - 1; k < last {
				put := append(slices.Clone(l[:k]), l[last])
				put = append(put, l[k+1:last]...)
				ups += min(1, risen(slices.Clone(put), k))
				downs += min(1, sunk(put, k))
			}
		}
	}
	if ups < 20 || downs < 20 {
		t.Error("too few go up or down for these heaps to tell anything:", ups, downs)
	}
}

var wrongWorks = []impl.Work{
	work(-1, 0, 0), work(0, -1, 0), work(0, 0, -1),
	work(most+1, 0, 0), work(0, most+1, 0), work(0, 0, most+1),
	work(math.MinInt, 0, 0), work(0, math.MinInt, 0), work(0, 0, math.MinInt),
	work(math.MaxInt, 0, 0), work(0, math.MaxInt, 0), work(0, 0, math.MaxInt),
	work(most, most, most+1), work(most, most+1, most), work(math.MinInt, math.MaxInt, math.MinInt),
}

// wantNoHeap holds what asks for a heap to its zero answer at l.
func wantNoHeap(t *testing.T, l []impl.Work) {
	t.Helper()
	if h, ok := impl.PushHeap(l, work(3, 3, 3)); ok || len(h) != 0 {
		t.Errorf("PushHeap(%v): %v, %t", l, h, ok)
	}
	if h, x, ok := impl.PopHeap(l); ok || len(h) != 0 || x != (impl.Work{}) {
		t.Errorf("PopHeap(%v): %v, %v, %t", l, h, x, ok)
	}
	for k := -1; k <= len(l); k++ {
		if h, ok := impl.RemoveAt(l, k); ok || len(h) != 0 {
			t.Errorf("RemoveAt(%v, %d): %v, %t", l, k, h, ok)
		}
	}
}

func wantNoWorks(t *testing.T, l []impl.Work) {
	t.Helper()
	wantNoHeap(t, l)
	if is, ok := impl.IsHeap(l); is || ok {
		t.Errorf("IsHeap(%v): %t, %t", l, is, ok)
	}
	if h, ok := impl.MakeHeap(l); ok || len(h) != 0 {
		t.Errorf("MakeHeap(%v): %v, %t", l, h, ok)
	}
	if steps, ok := impl.StepsToMake(l); ok || steps != 0 {
		t.Errorf("StepsToMake(%v): %d, %t", l, steps, ok)
	}
	if sorted, ok := impl.SortWork(l); ok || len(sorted) != 0 {
		t.Errorf("SortWork(%v): %v, %t", l, sorted, ok)
	}
}

func TestWrongWork(t *testing.T) {
	good := work(0, 0, 0)
	for _, x := range wrongWorks {
		for _, two := range [][2]impl.Work{{x, good}, {good, x}, {x, x}, {x, work(most, most, most)}, {work(most, most, most), x}} {
			if less, ok := impl.LessWork(two[0], two[1]); less || ok {
				t.Errorf("LessWork(%v): %t, %t", two, less, ok)
			}
		}
		for _, h := range [][]impl.Work{nil, {good}, ends(1, 2, 3)} {
			if l, ok := impl.PushHeap(h, x); ok || len(l) != 0 {
				t.Errorf("PushHeap(%v, %v): %v, %t", h, x, l, ok)
			}
		}
		wantNoWorks(t, []impl.Work{x})
		for k := range 4 {
			l := ends(0, 1, 2, most)
			l[k] = x
			wantNoWorks(t, l)
		}
		full := make([]impl.Work, impl.MaxHeap)
		full[impl.MaxHeap-1] = x
		wantNoWorks(t, full)
	}
}

func TestTooMuchWork(t *testing.T) {
	for _, many := range []int{impl.MaxHeap + 1, impl.MaxHeap + 2, 2*impl.MaxHeap + 1, 1000} {
		var rising []impl.Work
		for k := range many {
			rising = append(rising, work(k, k, k))
		}
		wantNoWorks(t, rising)
		wantNoWorks(t, make([]impl.Work, many))
	}
}

func TestListsThatAreNoHeaps(t *testing.T) {
	for _, l := range append(workLists(), shortLists()...) {
		if !isHeap(l) {
			wantNoHeap(t, l)
		}
	}
}

func TestFullAndEmptyHeaps(t *testing.T) {
	full := make([]impl.Work, impl.MaxHeap)
	for k := range full {
		full[k] = work(k, 0, 0)
	}
	for _, x := range []impl.Work{work(0, 0, 0), work(most, most, most)} {
		if h, ok := impl.PushHeap(full, x); ok || len(h) != 0 {
			t.Errorf("PushHeap of a full heap: %v, %t", h, ok)
		}
		h, ok := impl.PushHeap(full[:impl.MaxHeap-1], x)
		wantLeastFirst(t, "the last that has room", h, append(slices.Clone(full[:impl.MaxHeap-1]), x))
		if !ok || len(h) != impl.MaxHeap {
			t.Error(len(h), ok)
		}
	}
	for _, l := range [][]impl.Work{nil, {}, workWithRoom(nil)} {
		if is, ok := impl.IsHeap(l); !is || !ok {
			t.Error("the empty list is a heap:", is, ok)
		}
		if h, x, ok := impl.PopHeap(l); ok || len(h) != 0 || x != (impl.Work{}) {
			t.Errorf("PopHeap of none: %v, %v, %t", h, x, ok)
		}
		if h, ok := impl.RemoveAt(l, 0); ok || len(h) != 0 {
			t.Errorf("RemoveAt of none: %v, %t", h, ok)
		}
		if steps, ok := impl.StepsToMake(l); steps != 0 || !ok {
			t.Error(steps, ok)
		}
		h, ok := impl.MakeHeap(l)
		wantWorks(t, "MakeHeap", h, ok, nil)
		sorted, ok := impl.SortWork(l)
		wantWorks(t, "SortWork", sorted, ok, nil)
		one, ok := impl.PushHeap(l, work(1, 2, 3))
		wantWorks(t, "PushHeap", one, ok, []impl.Work{work(1, 2, 3)})
	}
}

func TestNoSuchPlaceInAHeap(t *testing.T) {
	for _, l := range heapsToTry() {
		for _, k := range []int{-1, -2, math.MinInt, len(l), len(l) + 1, 2*len(l) + 1, math.MaxInt} {
			if h, ok := impl.RemoveAt(l, k); ok || len(h) != 0 {
				t.Errorf("RemoveAt(%v, %d): %v, %t", l, k, h, ok)
			}
			room := workWithRoom(l)
			if h, ok := impl.RemoveAt(room, k); ok || len(h) != 0 {
				t.Errorf("RemoveAt(%v, %d), with memory behind: %v, %t", l, k, h, ok)
			}
		}
	}
}

// hiddenWork stands behind the lists' lengths: less than all others, so that a heap that reads it goes wrong.
var hiddenWork = work(-7, -7, -7)

func workWithRoom(l []impl.Work) []impl.Work {
	all := append(make([]impl.Work, 0, len(l)+impl.MaxHeap+5), l...)
	for k := len(l); k < cap(all); k++ {
		all[:cap(all)][k] = hiddenWork
	}
	return all
}

// wantWorkUntouched writes all over the answer, as far as its memory goes, and looks whether what was given stands as it was.
func wantWorkUntouched(t *testing.T, what string, answer, given, were []impl.Work) {
	t.Helper()
	whole := answer[:cap(answer)]
	if slices.Contains(whole, hiddenWork) {
		t.Errorf("%s: the answer has what lies behind a list's length", what)
	}
	for _, x := range whole[len(answer):] {
		if x != (impl.Work{}) {
			t.Errorf("%s: %v is left behind the answer's length", what, x)
		}
	}
	for k := range whole {
		whole[k] = work(-9, -9, -9)
	}
	if !slices.Equal(given, were) {
		t.Errorf("%s: %v has become %v", what, were, given)
	}
	for _, x := range given[len(given):cap(given)] {
		if x != hiddenWork {
			t.Fatalf("%s: written behind the list's length", what)
		}
	}
}

func TestWorkIsNotWrittenInto(t *testing.T) {
	lists := append(workLists(), shortLists()...)
	lists = append(lists, ends(1, -1, 2), ends(3, 2, 1, most+1), make([]impl.Work, impl.MaxHeap+1))
	for _, were := range append(lists, heapsToTry()...) {
		l := workWithRoom(were)
		for _, x := range []impl.Work{work(0, 0, 0), work(4, 4, 4), work(most, most, most), work(-1, 0, 0)} {
			h, _ := impl.PushHeap(l, x)
			wantWorkUntouched(t, "PushHeap", h, l, were)
		}
		h, _, _ := impl.PopHeap(l)
		wantWorkUntouched(t, "PopHeap", h, l, were)
		for k := -1; k <= len(l); k++ {
			h, _ = impl.RemoveAt(l, k)
			wantWorkUntouched(t, "RemoveAt", h, l, were)
		}
		h, _ = impl.MakeHeap(l)
		wantWorkUntouched(t, "MakeHeap", h, l, were)
		h, _ = impl.SortWork(l)
		wantWorkUntouched(t, "SortWork", h, l, were)
		impl.IsHeap(l)
		impl.StepsToMake(l)
		wantWorkUntouched(t, "the asking ones", nil, l, were)
	}
}

func TestWorkBehindAListIsNotRead(t *testing.T) {
	for _, were := range heapsToTry() {
		l := workWithRoom(were)
		if is, ok := impl.IsHeap(l); !is || !ok {
			t.Errorf("IsHeap(%v): %t, %t", were, is, ok)
		}
		for k := range l {
			h, ok := impl.RemoveAt(l, k)
			wantWorks(t, "RemoveAt", h, ok, heapWithout(were, k))
		}
		made, ok := impl.MakeHeap(l)
		wantWorks(t, "MakeHeap", made, ok, were)
		sorted, ok := impl.SortWork(l)
		wantWorks(t, "SortWork", sorted, ok, inTurn(were))
	}
}
