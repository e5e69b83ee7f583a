package tests

import (
	"math"
	"slices"
	"testing"

	"loop.example/g00527/impl"
)

// mostRate, mostDepth and mostUnits are the greatest Rate, the greatest Depth and the most that comes, is taken or is served in a tick.
const (
	mostRate  = 20
	mostDepth = 60
	mostUnits = 60
)

func bucket(rate, depth, has int) impl.Bucket {
	return impl.Bucket{Rate: rate, Depth: depth, Has: has}
}

// upTo are the sums of a list, beginning with 0 for none of it.
func upTo(l []int) []int {
	sums := []int{0}
	for _, n := range l {
		sums = append(sums, sums[len(sums)-1]+n)
	}
	return sums
}

// leastGone, levelsWithin and unitDelay are written apart from the program, to be held against it.

// leastGone is what goes and what waits by Cruz's rule: gone is never more than has come, nor than what had come ahead of any tick and all that may go from there on. More than the depth never goes in a tick, so a rate above it is none.
func leastGone(rate, depth int, flow []int) ([]int, []int) {
	come := upTo(flow)
	rate = min(rate, depth)
	var goes, waits []int
	before := 0
	for tick := range flow {
		gone := come[tick+1]
		for from := range tick + 1 {
			gone = min(gone, come[from]+depth+rate*(tick-from))
		}
		goes = append(goes, gone-before)
		waits = append(waits, come[tick+1]-gone)
		before = gone
	}
	return goes, waits
}

// levelsWithin pours the flow into a vessel that leaks by the rate and looks whether it ever has more than the depth.
func levelsWithin(rate, depth int, flow []int) bool {
	level := 0
	for _, comes := range flow {
		level = max(level-rate, 0) + comes
		if level > depth {
			return false
		}
	}
	return true
}

// unitDelay follows each unit by itself: the k-th that comes is the k-th that goes, or waits till behind the last tick.
func unitDelay(flow, out []int) int {
	comes, goes := unitTicks(flow), unitTicks(out)
	worst := 0
	for k, tick := range comes {
		until := len(flow)
		if k < len(goes) {
			until = goes[k]
		}
		worst = max(worst, until-tick)
	}
	return worst
}

func unitTicks(flow []int) []int {
	var ticks []int
	for tick, units := range flow {
		ticks = append(ticks, slices.Repeat([]int{tick}, units)...)
	}
	return ticks
}

// smallFlows are all flows of at most 4 ticks with up to units in each.
func smallFlows(units int) [][]int {
	flows := [][]int{nil}
	for at := 0; len(flows[at]) < 4; at++ {
		for n := range units + 1 {
			flows = append(flows, append(slices.Clone(flows[at]), n))
		}
	}
	return flows
}

// shakenFlow has up to units in a tick, in one of so many ticks alone.
func shakenFlow(ticks, units, among, seed int) []int {
	next := shaker(seed)
	flow := make([]int, ticks)
	for tick := range flow {
		if next(among) == 0 {
			flow[tick] = next(units + 1)
		}
	}
	return flow
}

// flowsToTry are shaken flows of every length up to MaxTicks, thick ones, thin ones and ones with much at a time and nothing between.
func flowsToTry(each int) [][]int {
	var flows [][]int
	for ticks := range impl.MaxTicks + 1 {
		for seed := range each {
			flows = append(flows,
				shakenFlow(ticks, mostUnits, 1, seed),
				shakenFlow(ticks, 12, 1, seed),
				shakenFlow(ticks, 3, 2, seed),
				shakenFlow(ticks, mostUnits, 6, seed))
		}
	}
	return flows
}

// keptFlow keeps within the rate and the depth: it takes all that it may, or some of it, or nothing for a while.
func keptFlow(rate, depth, ticks, seed int) []int {
	next := shaker(seed)
	flow := make([]int, ticks)
	level := 0
	for tick := range flow {
		level = max(level-rate, 0)
		room := depth - level
		switch next(4) {
		case 0:
			flow[tick] = room
		case 1:
			flow[tick] = next(room + 1)
		case 2:
			flow[tick] = min(room, rate)
		}
		level += flow[tick]
	}
	return flow
}

// measures are pairs of a rate and a depth: the least, the greatest, alike ones, a rate above the depth, and some between.
var measures = [][2]int{
	{1, 1}, {20, 60}, {1, 60}, {20, 1}, {20, 20}, {2, 5}, {3, 7}, {5, 2}, {7, 8}, {8, 7}, {1, 2}, {4, 30}, {13, 59}, {19, 18}, {6, 6}, {10, 45},
}

func wantBucket(t *testing.T, what string, got impl.Bucket, ok bool, want impl.Bucket) {
	t.Helper()
	if got != want || !ok {
		t.Errorf("%s: %v, %t, not %v", what, got, ok, want)
	}
}

func wantNoBucket(t *testing.T, what string, got impl.Bucket, ok bool) {
	t.Helper()
	if got != (impl.Bucket{}) || ok {
		t.Errorf("%s: %v, %t", what, got, ok)
	}
}

func wantShaped(t *testing.T, rate, depth int, flow, goes, waits []int) {
	t.Helper()
	out, left, ok := impl.ShapeFlow(rate, depth, flow)
	if !ok || !slices.Equal(out, goes) || !slices.Equal(left, waits) {
		t.Errorf("ShapeFlow(%d, %d, %v): %v, %v, %t, not %v, %v", rate, depth, flow, out, left, ok, goes, waits)
	}
}

func wantPassed(t *testing.T, flow []int, serve int, goes, waits []int) {
	t.Helper()
	out, left, ok := impl.PassThrough(flow, serve)
	if !ok || !slices.Equal(out, goes) || !slices.Equal(left, waits) {
		t.Errorf("PassThrough(%v, %d): %v, %v, %t, not %v, %v", flow, serve, out, left, ok, goes, waits)
	}
}

func wantConforms(t *testing.T, rate, depth int, flow []int, want bool) {
	t.Helper()
	if is, ok := impl.Conforms(rate, depth, flow); is != want || !ok {
		t.Errorf("Conforms(%d, %d, %v): %t, %t, not %t", rate, depth, flow, is, ok, want)
	}
}

func wantDelay(t *testing.T, flow, out []int, want int) {
	t.Helper()
	if delay, ok := impl.WorstDelay(flow, out); delay != want || !ok {
		t.Errorf("WorstDelay(%v, %v): %d, %t, not %d", flow, out, delay, ok, want)
	}
}

// wantAddedUp looks whether what goes and what waits are what waited and what comes, in each tick.
func wantAddedUp(t *testing.T, what string, flow, goes, waits []int) {
	t.Helper()
	if len(goes) != len(flow) || len(waits) != len(flow) {
		t.Fatalf("%s of %v: %v, %v", what, flow, goes, waits)
	}
	waited := 0
	for tick, comes := range flow {
		if goes[tick] < 0 || waits[tick] < 0 || goes[tick]+waits[tick] != waited+comes {
			t.Errorf("%s of %v: at %d %d goes and %d waits, where %d waited", what, flow, tick, goes[tick], waits[tick], waited)
		}
		waited = waits[tick]
	}
}

func TestLimitOfTicks(t *testing.T) {
	if impl.MaxTicks != 40 {
		t.Error(impl.MaxTicks)
	}
}

func TestEveryBucketWithinItsLimits(t *testing.T) {
	for rate := -2; rate <= mostRate+2; rate++ {
		for depth := -2; depth <= mostDepth+2; depth++ {
			fine := rate >= 1 && rate <= 20 && depth >= 1 && depth <= 60
			full, ok := impl.NewBucket(rate, depth)
			if fine {
				wantBucket(t, "NewBucket", full, ok, bucket(rate, depth, depth))
			} else {
				wantNoBucket(t, "NewBucket", full, ok)
			}
			for has := -2; has <= mostDepth+4; has++ {
				want := fine && has >= 0 && has <= depth
				if impl.GoodBucket(bucket(rate, depth, has)) != want {
					t.Errorf("GoodBucket of %d, %d, %d: %t", rate, depth, has, !want)
				}
			}
		}
	}
}

func TestTicksFillUpToTheDepth(t *testing.T) {
	for _, x := range []struct {
		what string
		b    impl.Bucket
		has  int
	}{
		{"an empty one", bucket(2, 5, 0), 2},
		{"one below the Depth", bucket(2, 5, 2), 4},
		{"just to the Depth", bucket(2, 5, 3), 5},
		{"one above the Depth", bucket(2, 5, 4), 5},
		{"a full one", bucket(2, 5, 5), 5},
		{"a Rate that is the Depth", bucket(5, 5, 0), 5},
		{"a Rate above the Depth", bucket(20, 3, 0), 3},
		{"the least", bucket(1, 1, 0), 1},
		{"the least, full", bucket(1, 1, 1), 1},
		{"the greatest, just to the Depth", bucket(20, 60, 40), 60},
		{"the greatest, one above it", bucket(20, 60, 41), 60},
		{"the greatest, one below it", bucket(20, 60, 39), 59},
	} {
		got, ok := impl.TickBucket(x.b)
		wantBucket(t, x.what, got, ok, bucket(x.b.Rate, x.b.Depth, x.has))
	}
	for rate := 1; rate <= mostRate; rate++ {
		for depth := 1; depth <= mostDepth; depth++ {
			for has := range depth + 1 {
				got, ok := impl.TickBucket(bucket(rate, depth, has))
				for drops := 0; drops < rate && has < depth; drops++ {
					has++
				}
				wantBucket(t, "TickBucket", got, ok, bucket(rate, depth, has))
			}
		}
	}
}

func TestTakenAsLongAsThereIsSoMuch(t *testing.T) {
	for _, depth := range []int{1, 2, 5, 59, 60} {
		for has := range depth + 1 {
			b := bucket(3, depth, has)
			for many := range mostUnits + 1 {
				got, ok := impl.TakeBucket(b, many)
				if many <= has {
					wantBucket(t, "TakeBucket", got, ok, bucket(3, depth, has-many))
				} else {
					wantNoBucket(t, "TakeBucket of more than it has", got, ok)
				}
			}
		}
	}
}

func TestFilledAndTakenFrom(t *testing.T) {
	b, ok := impl.NewBucket(3, 8)
	wantBucket(t, "NewBucket", b, ok, bucket(3, 8, 8))
	for at, x := range []struct{ many, has int }{{8, 3}, {0, 6}, {1, 8}, {0, 8}, {5, 6}, {6, 3}, {3, 3}} {
		b, ok = impl.TakeBucket(b, x.many)
		if !ok {
			t.Fatal(at, x.many)
		}
		b, ok = impl.TickBucket(b)
		wantBucket(t, "taken from and filled", b, ok, bucket(3, 8, x.has))
	}
	all, ok := impl.TakeBucket(b, 3)
	wantBucket(t, "all that it has", all, ok, bucket(3, 8, 0))
	more, ok := impl.TakeBucket(b, 4)
	wantNoBucket(t, "one more than it has", more, ok)
	none, ok := impl.TakeBucket(all, 0)
	wantBucket(t, "nothing of an empty one", none, ok, all)
}

func TestFlowsAreShaped(t *testing.T) {
	for _, x := range []struct {
		rate, depth       int
		flow, goes, waits []int
	}{
		{2, 5, nil, nil, nil},
		{2, 5, []int{0}, []int{0}, []int{0}},
		{2, 5, []int{5}, []int{5}, []int{0}},
		{2, 5, []int{6}, []int{5}, []int{1}},
		// The first tick has no more than the Depth; each later one has the Rate more.
		{2, 5, []int{7}, []int{5}, []int{2}},
		{2, 5, []int{8, 0, 0}, []int{5, 2, 1}, []int{3, 1, 0}},
		{3, 5, []int{8, 0}, []int{5, 3}, []int{3, 0}},
		{2, 5, []int{5, 2, 2, 3, 1}, []int{5, 2, 2, 2, 2}, []int{0, 0, 0, 1, 0}},
		// What is not taken is kept, up to the Depth.
		{2, 5, []int{4, 0, 5}, []int{4, 0, 5}, []int{0, 0, 0}},
		{2, 5, []int{4, 0, 6}, []int{4, 0, 5}, []int{0, 0, 1}},
		{2, 5, []int{5, 0, 5}, []int{5, 0, 4}, []int{0, 0, 1}},
		{2, 5, []int{0, 0, 0, 9, 9}, []int{0, 0, 0, 5, 2}, []int{0, 0, 0, 4, 11}},
		{2, 5, []int{0, 0, 0, 0}, []int{0, 0, 0, 0}, []int{0, 0, 0, 0}},
		{1, 1, []int{2, 2, 0, 0}, []int{1, 1, 1, 1}, []int{1, 2, 1, 0}},
		{20, 1, []int{3, 0, 0}, []int{1, 1, 1}, []int{2, 1, 0}},
		{9, 4, []int{9, 1, 1, 1}, []int{4, 4, 3, 1}, []int{5, 2, 0, 0}},
		{20, 60, []int{60, 60, 60}, []int{60, 20, 20}, []int{0, 40, 80}},
	} {
		wantShaped(t, x.rate, x.depth, x.flow, x.goes, x.waits)
	}
}

func TestFlowsPassThrough(t *testing.T) {
	for _, x := range []struct {
		flow        []int
		serve       int
		goes, waits []int
	}{
		{nil, 2, nil, nil},
		{[]int{0}, 1, []int{0}, []int{0}},
		{[]int{3}, 3, []int{3}, []int{0}},
		{[]int{4}, 3, []int{3}, []int{1}},
		{[]int{5, 0, 0}, 2, []int{2, 2, 1}, []int{3, 1, 0}},
		// What is not served in a tick is not kept for the next.
		{[]int{0, 0, 7, 0}, 3, []int{0, 0, 3, 3}, []int{0, 0, 4, 1}},
		{[]int{1, 5, 1}, 3, []int{1, 3, 3}, []int{0, 2, 0}},
		{[]int{2, 2, 2}, 3, []int{2, 2, 2}, []int{0, 0, 0}},
		{[]int{60, 60}, 60, []int{60, 60}, []int{0, 0}},
		{[]int{60, 60, 0, 0}, 59, []int{59, 59, 2, 0}, []int{1, 2, 0, 0}},
		{[]int{60, 60}, 1, []int{1, 1}, []int{59, 118}},
	} {
		wantPassed(t, x.flow, x.serve, x.goes, x.waits)
	}
}

func TestWhatGoesAndWhatWaitsTickByTick(t *testing.T) {
	for _, flow := range append(flowsToTry(6), smallFlows(4)...) {
		for _, m := range measures {
			goes, waits := leastGone(m[0], m[1], flow)
			wantShaped(t, m[0], m[1], flow, goes, waits)
			wantAddedUp(t, "leastGone", flow, goes, waits)
		}
		for _, serve := range []int{1, 2, 3, 7, 20, 21, 59, 60} {
			goes, waits := leastGone(serve, serve, flow)
			wantPassed(t, flow, serve, goes, waits)
		}
	}
}

func TestWhatGoesAndWhatWaitsAddUp(t *testing.T) {
	for _, flow := range flowsToTry(8) {
		for _, m := range measures {
			goes, waits, _ := impl.ShapeFlow(m[0], m[1], flow)
			wantAddedUp(t, "ShapeFlow", flow, goes, waits)
			goes, waits, _ = impl.PassThrough(flow, m[1])
			wantAddedUp(t, "PassThrough", flow, goes, waits)
		}
	}
}

func TestShapedByTheBucketsOwnSteps(t *testing.T) {
	for _, flow := range flowsToTry(3) {
		for _, m := range measures {
			goes, waits, _ := impl.ShapeFlow(m[0], m[1], flow)
			b, _ := impl.NewBucket(m[0], m[1])
			for tick := range flow {
				if tick > 0 {
					b, _ = impl.TickBucket(b)
				}
				left, ok := impl.TakeBucket(b, goes[tick])
				if !ok {
					t.Fatalf("ShapeFlow(%d, %d, %v): at %d %d goes, of %d", m[0], m[1], flow, tick, goes[tick], b.Has)
				}
				b = left
				if waits[tick] > 0 && b.Has > 0 {
					t.Errorf("ShapeFlow(%d, %d, %v): at %d %d waits, with %d to be had", m[0], m[1], flow, tick, waits[tick], b.Has)
				}
			}
		}
	}
}

func TestFlowsAtTheBoundConform(t *testing.T) {
	for _, x := range []struct {
		rate, depth int
		flow        []int
		is          bool
	}{
		{2, 5, nil, true},
		{2, 5, []int{0}, true},
		{2, 5, []int{5}, true},
		{2, 5, []int{6}, false},
		{2, 5, []int{7}, false},
		{2, 5, []int{8}, false},
		{1, 1, []int{1}, true},
		{1, 1, []int{2}, false},
		{20, 60, []int{60}, true},
		{20, 59, []int{60}, false},
		{2, 5, []int{5, 2, 2}, true},
		{2, 5, []int{5, 2, 3}, false},
		{2, 5, []int{5, 3, 0}, false},
		{2, 5, []int{4, 3}, true},
		{2, 5, []int{4, 4}, false},
		{2, 5, []int{2, 5}, true},
		{2, 5, []int{3, 5}, false},
		// Nothing for a while leaves the Rate of each of its ticks, but not more than the Depth.
		{2, 5, []int{5, 0, 4}, true},
		{2, 5, []int{5, 0, 5}, false},
		{2, 5, []int{5, 0, 0, 5}, true},
		{2, 5, []int{0, 0, 0, 6}, false},
		{2, 5, []int{0, 6, 0}, false},
		// Only the while of all three is above the bound, wherever it lies.
		{2, 5, []int{3, 4, 2}, true},
		{2, 5, []int{3, 4, 3}, false},
		{2, 5, []int{0, 3, 4, 3, 0}, false},
		{2, 5, []int{0, 3, 4, 2, 0}, true},
		{20, 1, []int{1, 1, 1}, true},
		{20, 1, []int{1, 2, 1}, false},
		{5, 2, []int{2, 2, 2, 2}, true},
		{5, 2, []int{0, 0, 0, 3}, false},
		{20, 60, []int{60, 20, 20, 20}, true},
		{20, 60, []int{60, 20, 20, 21}, false},
	} {
		wantConforms(t, x.rate, x.depth, x.flow, x.is)
	}
}

// TestOneAboveTheBound makes flows that have just the bound in the while from one tick to another, and then one unit more.
func TestOneAboveTheBound(t *testing.T) {
	for rate := 1; rate <= mostRate; rate++ {
		for _, depth := range []int{rate, rate + 1, 2*rate + 3, mostDepth} {
			if depth > mostDepth {
				continue
			}
			for _, ticks := range []int{1, 2, 3, 17, impl.MaxTicks} {
				for _, from := range []int{0, 1, ticks / 2, ticks - 1} {
					if from >= ticks {
						continue
					}
					flow := make([]int, ticks)
					flow[from] = depth
					for tick := from + 1; tick < ticks; tick++ {
						flow[tick] = rate
					}
					wantConforms(t, rate, depth, flow, true)
					wantShaped(t, rate, depth, flow, flow, make([]int, ticks))
					last := ticks - 1
					if flow[last] == mostUnits {
						continue
					}
					flow[last]++
					wantConforms(t, rate, depth, flow, false)
					left := make([]int, ticks)
					left[last] = 1
					shaped := slices.Clone(flow)
					shaped[last]--
					wantShaped(t, rate, depth, flow, shaped, left)
				}
			}
		}
	}
}

func TestConformsInEveryWhile(t *testing.T) {
	is, not := 0, 0
	try := func(rate, depth int, flow []int) {
		want := levelsWithin(rate, depth, flow)
		wantConforms(t, rate, depth, flow, want)
		if want {
			is++
		} else {
			not++
		}
	}
	for _, flow := range smallFlows(5) {
		for rate := 1; rate <= 4; rate++ {
			for depth := 1; depth <= 6; depth++ {
				try(rate, depth, flow)
			}
		}
	}
	if min(is, not) < 1000 {
		t.Error("too few small flows of a kind:", is, not)
	}
	is, not = 0, 0
	for seed, m := range measures {
		for ticks := range impl.MaxTicks + 1 {
			for turn := range 10 {
				flow := keptFlow(m[0], m[1], ticks, seed*1000+turn)
				try(m[0], m[1], flow)
				if ticks == 0 {
					continue
				}
				tick := (turn * 7) % ticks
				flow[tick] = min(flow[tick]+1, mostUnits)
				try(m[0], m[1], flow)
			}
		}
	}
	for _, flow := range flowsToTry(5) {
		for _, m := range measures {
			try(m[0], m[1], flow)
		}
	}
	if min(is, not) < 3000 {
		t.Error("too few flows of a kind:", is, not)
	}
}

func TestWhatABucketLetsGoConforms(t *testing.T) {
	cut, whole := 0, 0
	for _, flow := range append(flowsToTry(6), smallFlows(4)...) {
		for _, m := range measures {
			goes, waits, ok := impl.ShapeFlow(m[0], m[1], flow)
			if !ok {
				t.Fatalf("ShapeFlow(%d, %d, %v) is refused", m[0], m[1], flow)
			}
			wantConforms(t, m[0], m[1], goes, true)
			is, _ := impl.Conforms(m[0], m[1], flow)
			if atOnce := slices.Equal(goes, flow) && slices.Equal(waits, make([]int, len(flow))); atOnce != is {
				t.Errorf("%v at %d and %d conforms: %t, goes at once: %t", flow, m[0], m[1], is, atOnce)
			}
			if is {
				whole++
			} else {
				cut++
			}
		}
	}
	if min(cut, whole) < 3000 {
		t.Error("too few flows go at once or wait:", whole, cut)
	}
}

func TestWhatConformsGoesAtOnce(t *testing.T) {
	for seed, m := range measures {
		for ticks := range impl.MaxTicks + 1 {
			for turn := range 10 {
				flow := keptFlow(m[0], m[1], ticks, seed*2000+turn)
				wantConforms(t, m[0], m[1], flow, true)
				wantShaped(t, m[0], m[1], flow, flow, make([]int, ticks))
			}
		}
	}
}

func TestWhatWasShapedIsShapedNoFurther(t *testing.T) {
	for _, flow := range flowsToTry(4) {
		for _, m := range measures {
			once, _, _ := impl.ShapeFlow(m[0], m[1], flow)
			wantShaped(t, m[0], m[1], once, once, make([]int, len(flow)))
		}
	}
}

// wantNoLongerThanItsBurst serves what conforms; in the tick in which it comes it is served as well, so one tick of those that the burst takes is not waited for. It tells whether it waits just so long.
func wantNoLongerThanItsBurst(t *testing.T, rate, depth, serve int, flow []int) bool {
	t.Helper()
	out, _, ok := impl.PassThrough(flow, serve)
	if !ok {
		t.Fatalf("PassThrough(%v, %d) is refused", flow, serve)
	}
	delay, ok := impl.WorstDelay(flow, out)
	burst := (depth+serve-1)/serve - 1
	if !ok || delay > burst {
		t.Errorf("%v, that conforms at %d and %d, waits %d ticks (%t) at a serve of %d, more than %d", flow, rate, depth, delay, ok, serve, burst)
	}
	return delay == burst && burst > 0
}

func TestWhatConformsWaitsNoLongerThanItsBurst(t *testing.T) {
	just := 0
	for seed, m := range measures {
		rate, depth := m[0], m[1]
		for serve := rate; serve <= mostUnits; serve++ {
			for turn := range 6 {
				ticks := (turn*13 + serve) % (impl.MaxTicks + 1)
				if wantNoLongerThanItsBurst(t, rate, depth, serve, keptFlow(rate, depth, ticks, seed*3000+turn)) {
					just++
				}
			}
		}
		for _, flow := range flowsToTry(2) {
			shaped, _, _ := impl.ShapeFlow(rate, depth, flow)
			for _, serve := range []int{rate, rate + 1, (rate + depth) / 2, depth, mostUnits} {
				if serve < rate {
					continue
				}
				if wantNoLongerThanItsBurst(t, rate, depth, serve, shaped) {
					just++
				}
			}
		}
	}
	if just < 500 {
		t.Error("too few flows wait as long as the bound:", just)
	}
}

func TestABurstWaitsTillItIsServed(t *testing.T) {
	for depth := 1; depth <= mostDepth; depth++ {
		for serve := 1; serve <= mostUnits; serve++ {
			flow := make([]int, impl.MaxTicks)
			flow[0] = depth
			out, _, _ := impl.PassThrough(flow, serve)
			wantDelay(t, flow, out, min((depth+serve-1)/serve-1, impl.MaxTicks))
		}
	}
	for _, m := range measures {
		rate, depth := m[0], m[1]
		if rate > depth {
			continue
		}
		// Served at just the Rate, a burst that is followed by the Rate in each tick is waited for to the end.
		flow := slices.Repeat([]int{rate}, impl.MaxTicks)
		flow[0] = depth
		out, _, _ := impl.PassThrough(flow, rate)
		wantDelay(t, flow, out, min((depth+rate-1)/rate-1, impl.MaxTicks))
	}
}

func TestDelaysOfOuts(t *testing.T) {
	for _, x := range []struct {
		flow, out []int
		delay     int
	}{
		{nil, nil, 0},
		{[]int{0}, []int{0}, 0},
		{[]int{0, 0, 0}, []int{0, 0, 0}, 0},
		{[]int{4}, []int{4}, 0},
		{[]int{3, 0, 2}, []int{3, 0, 2}, 0},
		{[]int{3, 0}, []int{0, 3}, 1},
		{[]int{0, 3, 0}, []int{0, 0, 3}, 1},
		// The last unit counts, not the first.
		{[]int{5, 0, 0}, []int{2, 2, 1}, 2},
		{[]int{5, 0, 0}, []int{4, 0, 1}, 2},
		{[]int{5, 0, 0}, []int{4, 1, 0}, 1},
		// What has come first is gone first.
		{[]int{2, 2, 0}, []int{0, 2, 2}, 1},
		{[]int{1, 1, 1, 0}, []int{0, 1, 1, 1}, 1},
		{[]int{1, 0, 0, 1}, []int{0, 0, 1, 1}, 2},
		// The worst lies at the beginning, between, at the end.
		{[]int{1, 0, 0, 1, 0, 1}, []int{0, 0, 1, 0, 1, 1}, 2},
		{[]int{1, 1, 2, 0, 0, 1}, []int{1, 1, 0, 0, 2, 1}, 2},
		{[]int{1, 0, 2, 0, 0}, []int{0, 1, 0, 0, 2}, 2},
		// Not all has gone out by the end.
		{[]int{3}, []int{2}, 1},
		{[]int{3}, []int{0}, 1},
		{[]int{3, 0, 0}, []int{2, 0, 0}, 3},
		{[]int{0, 0, 1}, []int{0, 0, 0}, 1},
		{[]int{0, 1, 0}, []int{0, 0, 0}, 2},
		{[]int{1, 1, 1}, []int{1, 1, 0}, 1},
		{[]int{1, 0, 0, 1}, []int{0, 0, 0, 1}, 3},
		{[]int{1, 0, 1}, []int{0, 1, 0}, 1},
		{[]int{1, 0, 0, 0, 1}, []int{0, 0, 0, 1, 0}, 3},
		// More may go out at once than may come in a tick.
		{[]int{60, 60, 0}, []int{0, 0, 120}, 2},
		{[]int{60, 1, 0}, []int{0, 61, 0}, 1},
	} {
		wantDelay(t, x.flow, x.out, x.delay)
	}
	first, last := make([]int, impl.MaxTicks), make([]int, impl.MaxTicks)
	first[0], last[impl.MaxTicks-1] = 60, 60
	wantDelay(t, first, make([]int, impl.MaxTicks), 40)
	wantDelay(t, first, last, 39)
	wantDelay(t, first, first, 0)
	wantDelay(t, last, last, 0)
	wantDelay(t, last, make([]int, impl.MaxTicks), 1)
	full, all := slices.Repeat([]int{60}, impl.MaxTicks), make([]int, impl.MaxTicks)
	all[impl.MaxTicks-1] = 60 * impl.MaxTicks
	wantDelay(t, full, all, 39)
	all[impl.MaxTicks-1]--
	wantDelay(t, full, all, 39)
	all[impl.MaxTicks-1] = 59
	wantDelay(t, full, all, 40)
}

func TestDelaysUnitByUnit(t *testing.T) {
	inTime, atOnce, left := 0, 0, 0
	for seed, flow := range append(flowsToTry(8), smallFlows(4)...) {
		next := shaker(seed)
		for _, hold := range []int{1, 2, 4} {
			waiting := 0
			out := make([]int, len(flow))
			for tick, comes := range flow {
				waiting += comes
				if next(hold) == 0 {
					out[tick] = waiting
				} else if next(2) == 0 {
					out[tick] = next(waiting + 1)
				}
				waiting -= out[tick]
			}
			want := unitDelay(flow, out)
			wantDelay(t, flow, out, want)
			if waiting > 0 {
				left++
			} else if want > 0 {
				inTime++
			} else {
				atOnce++
			}
		}
	}
	if min(inTime, atOnce, left) < 300 {
		t.Error("too few outs of a kind:", inTime, atOnce, left)
	}
	for _, flow := range smallFlows(3) {
		for _, out := range smallFlows(3) {
			come, gone := upTo(flow), upTo(out)
			fine := len(flow) == len(out)
			for k := 0; fine && k < len(come); k++ {
				fine = gone[k] <= come[k]
			}
			if fine {
				wantDelay(t, flow, out, unitDelay(flow, out))
			} else if delay, ok := impl.WorstDelay(flow, out); delay != 0 || ok {
				t.Errorf("WorstDelay(%v, %v): %d, %t", flow, out, delay, ok)
			}
		}
	}
}

func TestNoTicksOneAndTheMost(t *testing.T) {
	wantShaped(t, 1, 1, nil, nil, nil)
	wantPassed(t, nil, 1, nil, nil)
	wantConforms(t, 1, 1, nil, true)
	wantDelay(t, nil, nil, 0)
	for units := range mostUnits + 1 {
		wantShaped(t, 20, 30, []int{units}, []int{min(units, 30)}, []int{max(units-30, 0)})
		wantPassed(t, []int{units}, 30, []int{min(units, 30)}, []int{max(units-30, 0)})
		wantConforms(t, 20, 30, []int{units}, units <= 30)
		wantDelay(t, []int{units}, []int{units}, 0)
	}
	flow := slices.Repeat([]int{60}, impl.MaxTicks)
	ones, left := slices.Repeat([]int{1}, impl.MaxTicks), make([]int, impl.MaxTicks)
	for tick := range left {
		left[tick] = 59 * (tick + 1)
	}
	wantShaped(t, 1, 1, flow, ones, left)
	wantPassed(t, flow, 1, ones, left)
	wantPassed(t, flow, 60, flow, make([]int, impl.MaxTicks))
	wantConforms(t, 1, 1, flow, false)
	wantConforms(t, 1, 1, ones, true)
	wantDelay(t, flow, ones, 40)
}

// wrongMeasures are rates and depths of which one at least is outside its limits.
var wrongMeasures = [][2]int{
	{0, 5}, {-1, 5}, {21, 5}, {5, 0}, {5, -1}, {5, 61}, {0, 0}, {21, 61}, {0, 61}, {60, 20},
	{math.MinInt, 5}, {math.MaxInt, 5}, {5, math.MinInt}, {5, math.MaxInt},
	{math.MinInt, math.MinInt}, {math.MaxInt, math.MaxInt}, {math.MinInt, math.MaxInt}, {math.MaxInt, math.MinInt},
}

var wrongUnits = []int{-1, 61, -60, 1000, math.MinInt, math.MinInt + 1, math.MaxInt, math.MaxInt - 1}

// wrongFlows have too many ticks, or a number outside its limits at the beginning, between or at the end.
func wrongFlows() [][]int {
	flows := [][]int{make([]int, impl.MaxTicks+1), slices.Repeat([]int{1}, impl.MaxTicks+1), make([]int, 1000)}
	for _, units := range wrongUnits {
		flows = append(flows, []int{units}, []int{units, 0, 1}, []int{1, units, 0}, []int{2, 1, units}, []int{units, units})
		longest := make([]int, impl.MaxTicks)
		longest[impl.MaxTicks-1] = units
		flows = append(flows, longest)
	}
	// The sums of these wrap round to what would be good.
	return append(flows, []int{math.MaxInt, math.MaxInt, 2}, []int{math.MinInt, math.MinInt}, []int{1, -1}, []int{-1, 1}, []int{5, -60, 60})
}

func wantNoShape(t *testing.T, rate, depth int, flow []int) {
	t.Helper()
	if goes, waits, ok := impl.ShapeFlow(rate, depth, flow); len(goes) != 0 || len(waits) != 0 || ok {
		t.Errorf("ShapeFlow(%d, %d, %v): %v, %v, %t", rate, depth, flow, goes, waits, ok)
	}
	if is, ok := impl.Conforms(rate, depth, flow); is || ok {
		t.Errorf("Conforms(%d, %d, %v): %t, %t", rate, depth, flow, is, ok)
	}
}

func wantNoPassing(t *testing.T, flow []int, serve int) {
	t.Helper()
	if goes, waits, ok := impl.PassThrough(flow, serve); len(goes) != 0 || len(waits) != 0 || ok {
		t.Errorf("PassThrough(%v, %d): %v, %v, %t", flow, serve, goes, waits, ok)
	}
}

func wantNoDelay(t *testing.T, flow, out []int) {
	t.Helper()
	if delay, ok := impl.WorstDelay(flow, out); delay != 0 || ok {
		t.Errorf("WorstDelay(%v, %v): %d, %t", flow, out, delay, ok)
	}
}

func TestWrongBuckets(t *testing.T) {
	var wrong []impl.Bucket
	for _, m := range wrongMeasures {
		full, ok := impl.NewBucket(m[0], m[1])
		wantNoBucket(t, "NewBucket", full, ok)
		wrong = append(wrong, bucket(m[0], m[1], 0), bucket(m[0], m[1], 1), bucket(m[0], m[1], m[1]))
	}
	for _, has := range []int{-1, 6, 60, 61, math.MinInt, math.MaxInt} {
		wrong = append(wrong, bucket(2, 5, has))
	}
	wrong = append(wrong, bucket(20, 60, 61), bucket(1, 1, 2), impl.Bucket{},
		bucket(20, 60, math.MaxInt-10), bucket(1, 1, math.MinInt+1))
	for _, b := range wrong {
		if impl.GoodBucket(b) {
			t.Errorf("GoodBucket(%v)", b)
		}
		got, ok := impl.TickBucket(b)
		wantNoBucket(t, "TickBucket", got, ok)
		for _, many := range []int{0, 1, 5, 60, -1, 61, math.MinInt, math.MaxInt} {
			got, ok := impl.TakeBucket(b, many)
			wantNoBucket(t, "TakeBucket", got, ok)
		}
	}
}

func TestTakenBelowNothingAndAboveTheMost(t *testing.T) {
	for _, b := range []impl.Bucket{bucket(2, 5, 5), bucket(2, 5, 0), bucket(20, 60, 60), bucket(20, 60, 0), bucket(1, 1, 1)} {
		for _, many := range wrongUnits {
			got, ok := impl.TakeBucket(b, many)
			wantNoBucket(t, "TakeBucket", got, ok)
		}
	}
}

func TestWrongRatesDepthsAndServes(t *testing.T) {
	for _, flow := range [][]int{nil, {0}, {1}, {5, 0, 2}, make([]int, impl.MaxTicks)} {
		for _, m := range wrongMeasures {
			wantNoShape(t, m[0], m[1], flow)
		}
		for _, serve := range append(wrongUnits, 0) {
			wantNoPassing(t, flow, serve)
		}
	}
}

func TestWrongFlows(t *testing.T) {
	for _, flow := range wrongFlows() {
		for _, m := range append(measures, wrongMeasures...) {
			wantNoShape(t, m[0], m[1], flow)
		}
		for _, serve := range append(wrongUnits, 0, 1, 2, 60) {
			wantNoPassing(t, flow, serve)
		}
		wantNoDelay(t, flow, flow)
		wantNoDelay(t, flow, make([]int, len(flow)))
		wantNoDelay(t, flow, nil)
		wantNoDelay(t, nil, flow)
	}
}

func TestOutsThatAreNone(t *testing.T) {
	for _, x := range []struct {
		what      string
		flow, out []int
	}{
		{"shorter", []int{3, 2}, []int{3}},
		{"none at all", []int{3, 2}, nil},
		{"longer", []int{3, 2}, []int{3, 2, 0}},
		{"of no flow", nil, []int{0}},
		{"of no units, shorter", []int{0, 0}, []int{0}},
		{"below 0", []int{3, 2}, []int{-1, 2}},
		{"below 0 at the end", []int{3, 2, 1}, []int{3, 0, -1}},
		{"below 0, and made up for", []int{3, 2}, []int{-1, 6}},
		{"one more than has come", []int{3, 2}, []int{4, 0}},
		{"one more than has come, at the end", []int{3, 2}, []int{3, 3}},
		{"one more than all that has come", []int{3, 2, 0}, []int{0, 0, 6}},
		{"more than has come, as much by the end", []int{3, 2}, []int{4, 1}},
		{"more than has come between, less by the end", []int{1, 0, 5}, []int{1, 1, 2}},
		{"out ahead of coming", []int{0, 3}, []int{3, 0}},
		{"out where nothing comes", []int{0, 0}, []int{0, 1}},
		{"the greatest", []int{3, 2}, []int{0, math.MaxInt}},
		{"the least", []int{3, 2}, []int{0, math.MinInt}},
		{"the least behind the greatest", []int{3, 2}, []int{math.MaxInt, math.MinInt}},
		{"the greatest behind the least", []int{3, 2}, []int{math.MinInt, math.MaxInt}},
		{"sums that wrap round", []int{3, 2, 4}, []int{math.MaxInt, math.MaxInt, 5}},
		{"sums that wrap round below 0", []int{3, 2, 4}, []int{1, math.MaxInt, 4}},
		{"a wrong one behind a right one", []int{60, 60, 60}, []int{60, 60, 61}},
	} {
		if delay, ok := impl.WorstDelay(x.flow, x.out); delay != 0 || ok {
			t.Errorf("%s: WorstDelay(%v, %v): %d, %t", x.what, x.flow, x.out, delay, ok)
		}
	}
	longest := make([]int, impl.MaxTicks)
	wantNoDelay(t, longest, make([]int, impl.MaxTicks+1))
	wantNoDelay(t, longest, make([]int, impl.MaxTicks-1))
	for _, units := range []int{-1, 1, math.MinInt, math.MaxInt} {
		out := make([]int, impl.MaxTicks)
		out[impl.MaxTicks-1] = units
		wantNoDelay(t, longest, out)
	}
}

func TestNilAndEmptyFlowsAreTheSame(t *testing.T) {
	for _, flow := range [][]int{nil, {}, make([]int, 0, 5)} {
		wantShaped(t, 2, 5, flow, nil, nil)
		wantPassed(t, flow, 2, nil, nil)
		wantConforms(t, 2, 5, flow, true)
		wantDelay(t, flow, nil, 0)
		wantDelay(t, nil, flow, 0)
		wantNoShape(t, 0, 5, flow)
		wantNoPassing(t, flow, 0)
		wantNoDelay(t, flow, []int{0})
		wantNoDelay(t, []int{0}, flow)
	}
}

func TestFlowsAreNotWrittenInto(t *testing.T) {
	for _, were := range append(append(flowsToTry(1), smallFlows(2)...), wrongFlows()...) {
		flow := withHidden(were, hiddenNumber)
		goes, waits, _ := impl.ShapeFlow(2, 5, flow)
		wantUnchanged(t, "ShapeFlow", flow, were, hiddenNumber)
		wentSo, waitedSo := slices.Clone(goes), slices.Clone(waits)
		wrecked(t, "ShapeFlow, what goes", goes, hiddenNumber)
		if !slices.Equal(waits, waitedSo) {
			t.Fatal("ShapeFlow: what goes shares memory with what waits")
		}
		wrecked(t, "ShapeFlow, what waits", waits, hiddenNumber)
		wantUnchanged(t, "ShapeFlow, written into", flow, were, hiddenNumber)
		goes, waits, _ = impl.ShapeFlow(2, 5, flow)
		if !slices.Equal(goes, wentSo) || !slices.Equal(waits, waitedSo) {
			t.Fatalf("ShapeFlow of %v: at first %v, %v, then %v, %v", were, wentSo, waitedSo, goes, waits)
		}
		goes, waits, _ = impl.PassThrough(flow, 3)
		wantUnchanged(t, "PassThrough", flow, were, hiddenNumber)
		wentSo, waitedSo = slices.Clone(goes), slices.Clone(waits)
		out := withHidden(wentSo, hiddenNumber)
		impl.WorstDelay(flow, out)
		wantUnchanged(t, "WorstDelay, the flow", flow, were, hiddenNumber)
		wantUnchanged(t, "WorstDelay, the out", out, wentSo, hiddenNumber)
		wrecked(t, "PassThrough, what goes", goes, hiddenNumber)
		if !slices.Equal(waits, waitedSo) {
			t.Fatal("PassThrough: what goes shares memory with what waits")
		}
		wrecked(t, "PassThrough, what waits", waits, hiddenNumber)
		impl.Conforms(2, 5, flow)
		wantUnchanged(t, "Conforms", flow, were, hiddenNumber)
		impl.WorstDelay(flow, flow)
		wantUnchanged(t, "WorstDelay of one list", flow, were, hiddenNumber)
	}
}

// TestWhatGoesAtOnceIsNewMemory has flows that are their own answers.
func TestWhatGoesAtOnceIsNewMemory(t *testing.T) {
	were := []int{5, 2, 0, 1}
	flow := withHidden(were, hiddenNumber)
	goes, waits, _ := impl.ShapeFlow(2, 5, flow)
	wrecked(t, "ShapeFlow, what goes", goes, hiddenNumber)
	wrecked(t, "ShapeFlow, what waits", waits, hiddenNumber)
	goes, waits, _ = impl.PassThrough(flow, 60)
	wrecked(t, "PassThrough, what goes", goes, hiddenNumber)
	wrecked(t, "PassThrough, what waits", waits, hiddenNumber)
	wantUnchanged(t, "what goes at once", flow, were, hiddenNumber)
	// A list that is added to behind its length leaves the other list of the answer as it is.
	goes, waits, _ = impl.ShapeFlow(1, 2, []int{3, 3})
	_ = append(goes, 50, 51, 52)
	if !slices.Equal(waits, []int{1, 3}) {
		t.Error("ShapeFlow: what is put behind what goes is seen in what waits:", waits)
	}
	_ = append(waits, 60, 61, 62)
	if !slices.Equal(goes, []int{2, 1}) {
		t.Error("ShapeFlow: what is put behind what waits is seen in what goes:", goes)
	}
}

func TestFlowsBehindAListAreNotRead(t *testing.T) {
	for _, hidden := range []int{hiddenNumber, 1, 60, 61} {
		flow := withHidden([]int{5, 2}, hidden)
		wantShaped(t, 2, 5, flow, []int{5, 2}, []int{0, 0})
		wantPassed(t, flow, 3, []int{3, 3}, []int{2, 1})
		wantConforms(t, 2, 5, flow, true)
		wantDelay(t, flow, []int{5, 2}, 0)
		wantDelay(t, []int{5, 2}, flow, 0)
		wantDelay(t, flow, withHidden([]int{3, 3}, hidden), 1)
		wantNoDelay(t, []int{5, 2, hidden}, flow)
	}
}

func TestBucketsStayAsTheyWere(t *testing.T) {
	b := bucket(2, 5, 3)
	impl.TickBucket(b)
	impl.TakeBucket(b, 3)
	impl.TakeBucket(b, 4)
	if b != bucket(2, 5, 3) {
		t.Error("a bucket has become", b)
	}
	// The answers do not hang on what was asked before.
	for range 3 {
		got, ok := impl.TakeBucket(b, 2)
		wantBucket(t, "TakeBucket", got, ok, bucket(2, 5, 1))
		got, ok = impl.TickBucket(b)
		wantBucket(t, "TickBucket", got, ok, bucket(2, 5, 5))
		wantShaped(t, 2, 5, []int{8, 0, 0}, []int{5, 2, 1}, []int{3, 1, 0})
	}
}
