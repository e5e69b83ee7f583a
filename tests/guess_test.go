package tests

import (
	"fmt"
	"math"
	"slices"
	"testing"

	"loop.example/g00527/impl"
)

// mostTook, mostMean, mostSwing, mostMany, mostBack and mostSeen are the greatest Took, Mean, Swing, Many and Back, and how many SeeAll takes.
const (
	mostTook  = 1000
	mostMean  = 8000
	mostSwing = 4000
	mostMany  = 1000
	mostBack  = 6
	mostSeen  = 60
)

func guess(mean, swing, many, back int) impl.Guess {
	return impl.Guess{Mean: mean, Swing: swing, Many: many, Back: back}
}

func took(n int) impl.Seen {
	return impl.Seen{Took: n}
}

func twice(n int) impl.Seen {
	return impl.Seen{Took: n, Twice: true}
}

func lost() impl.Seen {
	return impl.Seen{Lost: true}
}

func tooks(all ...int) []impl.Seen {
	var l []impl.Seen
	for _, n := range all {
		l = append(l, took(n))
	}
	return l
}

// seenBy is written apart from the program, to be held against it: eighths and quarters are taken off bit by bit.
func seenBy(g impl.Guess, x impl.Seen) impl.Guess {
	if x.Lost {
		if g.Back < mostBack {
			g.Back++
		}
		return g
	}
	if g.Many < mostMany {
		g.Many++
	}
	if x.Twice {
		return g
	}
	ahead, behind := x.Took, g.Mean>>3
	g.Mean = g.Mean + ahead - behind
	if ahead < behind {
		ahead, behind = behind, ahead
	}
	g.Swing = g.Swing - g.Swing>>2 + (ahead - behind)
	g.Back = 0
	return g
}

// waitBy doubles one time behind the other, and stops as soon as it is long enough.
func waitBy(g impl.Guess) int {
	wait := g.Mean>>3 + g.Swing
	if wait < 4 {
		wait = 4
	}
	for range g.Back {
		if wait < 400 {
			wait += wait
		}
	}
	if wait > 400 {
		return 400
	}
	return wait
}

func allSeenBy(first int, l []impl.Seen) impl.Guess {
	g := guess(8*first, 2*first, 1, 0)
	for _, x := range l {
		g = seenBy(g, x)
	}
	return g
}

// clearOnes are those neither Lost nor sent Twice.
func clearOnes(l []impl.Seen) []impl.Seen {
	var left []impl.Seen
	for _, x := range l {
		if !x.Lost && !x.Twice {
			left = append(left, x)
		}
	}
	return left
}

func tooksOf(l []impl.Seen) []int {
	var all []int
	for _, x := range l {
		all = append(all, x.Took)
	}
	return all
}

// shakenSeen are near to each other, at the ends of what may be, or anywhere, as the kind tells; one of so many is Lost, and one sent Twice.
func shakenSeen(many, kind, oneOf, seed int) []impl.Seen {
	next := shaker(seed)
	var l []impl.Seen
	for range many {
		n := next(mostTook + 1)
		switch kind % 5 {
		case 1:
			n = 40 + next(5)
		case 2:
			n = mostTook * next(2)
		case 3:
			n = next(4)
		case 4:
			n = mostTook - next(4)
		}
		switch next(oneOf) {
		case 0:
			l = append(l, lost())
		case 1:
			l = append(l, twice(n))
		default:
			l = append(l, took(n))
		}
	}
	return l
}

// firstSeen is a first one and the list seen behind it.
type firstSeen struct {
	first int
	l     []impl.Seen
}

// seenToTry have lists of all lengths up to the most, with few and with many that were Lost or sent Twice.
func seenToTry(each int) []firstSeen {
	var all []firstSeen
	for many := range mostSeen + 1 {
		for seed := range each {
			for kind := range 5 {
				next := shaker(seed*31 + many*7 + kind)
				first := []int{1, 2, 41, 42, 999, 1000, 1 + next(1000), 1 + next(1000)}[next(8)]
				all = append(all, firstSeen{first, shakenSeen(many, kind, 3+next(8), seed*61+many*5+kind)})
			}
		}
	}
	return all
}

// smallSeen are all lists of up to 3 of a few kinds of seen, with a few first ones.
func smallSeen() []firstSeen {
	lists := [][]impl.Seen{nil}
	for at := 0; len(lists[at]) < 3; at++ {
		for _, x := range append(tooks(0, 1, 2, 7, 8, 9, 999, 1000), twice(0), twice(5), twice(1000), lost()) {
			lists = append(lists, append(slices.Clone(lists[at]), x))
		}
	}
	var all []firstSeen
	for _, l := range lists {
		for _, first := range []int{1, 2, 8, 999, 1000} {
			all = append(all, firstSeen{first, l})
		}
	}
	return all
}

// guessesToTry have each Mean once and each Swing at least once, also those that are no multiples.
func guessesToTry() []impl.Guess {
	var all []impl.Guess
	for mean := range mostMean + 1 {
		next := shaker(mean)
		all = append(all, guess(mean, mean%(mostSwing+1), next(mostMany+1), next(mostBack+1)))
	}
	for _, mean := range []int{0, 1, 7, 8, 9, 3999, 4000, 4001, 7991, 7992, 7993, 7999, 8000} {
		for _, swing := range []int{0, 1, 2, 3, 4, 5, 7, 8, 1999, 2000, 3995, 3996, 3997, 3999, 4000} {
			for _, many := range []int{0, 1, 998, 999, 1000} {
				for back := range mostBack + 1 {
					all = append(all, guess(mean, swing, many, back))
				}
			}
		}
	}
	return all
}

func wantGuess(t *testing.T, what string, got impl.Guess, ok bool, want impl.Guess) {
	t.Helper()
	if !ok || got != want {
		t.Errorf("%s: %v, %t, not %v", what, got, ok, want)
	}
	if !impl.GoodGuess(got) {
		t.Errorf("%s: %v is not good", what, got)
	}
}

func wantNoGuess(t *testing.T, what string, got impl.Guess, ok bool) {
	t.Helper()
	if ok || got != (impl.Guess{}) {
		t.Errorf("%s: %v, %t", what, got, ok)
	}
}

func wantSeen(t *testing.T, what string, g impl.Guess, x impl.Seen, want impl.Guess) {
	t.Helper()
	got, ok := impl.SeeGuess(g, x)
	wantGuess(t, fmt.Sprint(what, ": SeeGuess of ", g, " and ", x), got, ok, want)
}

func wantWait(t *testing.T, g impl.Guess, want int) {
	t.Helper()
	if n, ok := impl.WaitOf(g); n != want || !ok {
		t.Errorf("WaitOf %v: %d, %t, not %d", g, n, ok, want)
	}
}

func wantRange(t *testing.T, l []impl.Seen, least, greatest int) {
	t.Helper()
	if lo, hi, ok := impl.RangeOf(l); lo != least || hi != greatest || !ok {
		t.Errorf("RangeOf %v: %d, %d, %t, not %d, %d", l, lo, hi, ok, least, greatest)
	}
}

func wantNoRange(t *testing.T, l []impl.Seen) {
	t.Helper()
	if lo, hi, ok := impl.RangeOf(l); lo != 0 || hi != 0 || ok {
		t.Errorf("RangeOf %v: %d, %d, %t", l, lo, hi, ok)
	}
}

func TestLimitsOfGuesses(t *testing.T) {
	if impl.MinWait != 4 || impl.MaxWait != 400 {
		t.Error(impl.MinWait, impl.MaxWait)
	}
}

func TestNewGuesses(t *testing.T) {
	for first := -5; first <= mostTook+5; first++ {
		got, ok := impl.NewGuess(first)
		all, seen := impl.SeeAll(first, nil)
		if first < 1 || first > 1000 {
			wantNoGuess(t, fmt.Sprint("NewGuess ", first), got, ok)
			wantNoGuess(t, fmt.Sprint("SeeAll of none behind ", first), all, seen)
			continue
		}
		want := guess(first*8, first*2, 1, 0)
		wantGuess(t, fmt.Sprint("NewGuess ", first), got, ok, want)
		wantGuess(t, fmt.Sprint("SeeAll of none behind ", first), all, seen, want)
		wantWait(t, got, min(max(3*first, 4), 400))
	}
}

func TestGuessesWithinTheirLimits(t *testing.T) {
	within := func(n, most int) bool { return n >= 0 && n <= most }
	for _, g := range []impl.Guess{{}, guess(mostMean, mostSwing, mostMany, mostBack), guess(83, 17, 9, 2)} {
		for n := -10; n <= mostMean+10; n++ {
			for _, x := range []struct {
				g    impl.Guess
				good bool
			}{
				{guess(n, g.Swing, g.Many, g.Back), within(n, mostMean)},
				{guess(g.Mean, n, g.Many, g.Back), within(n, mostSwing)},
				{guess(g.Mean, g.Swing, n, g.Back), within(n, mostMany)},
				{guess(g.Mean, g.Swing, g.Many, n), within(n, mostBack)},
			} {
				if impl.GoodGuess(x.g) != x.good {
					t.Errorf("GoodGuess of %v: %t", x.g, !x.good)
				}
				if _, ok := impl.WaitOf(x.g); ok != x.good {
					t.Errorf("WaitOf %v: %t", x.g, ok)
				}
				if _, ok := impl.SeeGuess(x.g, took(5)); ok != x.good {
					t.Errorf("SeeGuess of %v: %t", x.g, ok)
				}
			}
		}
	}
}

func TestOneSeen(t *testing.T) {
	for _, x := range []struct {
		what string
		g    impl.Guess
		took int
		want impl.Guess
	}{
		{"d above 0", guess(80, 20, 1, 0), 18, guess(88, 23, 2, 0)},
		{"d just 1", guess(80, 20, 1, 0), 11, guess(81, 16, 2, 0)},
		{"d just 0", guess(80, 20, 1, 0), 10, guess(80, 15, 2, 0)},
		{"d just -1", guess(80, 20, 1, 0), 9, guess(79, 16, 2, 0)},
		{"d below 0", guess(80, 20, 1, 0), 2, guess(72, 23, 2, 0)},
		{"no multiples, d above 0", guess(87, 23, 5, 0), 30, guess(107, 38, 6, 0)},
		{"no multiples, d just 1", guess(87, 23, 5, 0), 11, guess(88, 19, 6, 0)},
		{"no multiples, d just 0", guess(87, 23, 5, 0), 10, guess(87, 18, 6, 0)},
		{"no multiples, d just -1", guess(87, 23, 5, 0), 9, guess(86, 19, 6, 0)},
		{"no multiples, d below 0", guess(87, 23, 5, 0), 0, guess(77, 28, 6, 0)},
		{"one above a multiple", guess(81, 21, 5, 0), 10, guess(81, 16, 6, 0)},
		{"one above a multiple, d below 0", guess(81, 21, 5, 0), 4, guess(75, 22, 6, 0)},
		{"one below a multiple", guess(79, 19, 5, 0), 10, guess(80, 16, 6, 0)},
		{"one below a multiple, d below 0", guess(79, 19, 5, 0), 3, guess(73, 21, 6, 0)},
		{"less than a whole", guess(7, 3, 5, 0), 0, guess(7, 3, 6, 0)},
		{"less than a whole, d above 0", guess(7, 3, 5, 0), 1, guess(8, 4, 6, 0)},
		{"nothing", guess(0, 0, 0, 0), 0, guess(0, 0, 1, 0)},
		{"nothing, and the longest", guess(0, 0, 0, 0), 1000, guess(1000, 1000, 1, 0)},
		{"the most, d just 0", guess(8000, 4000, 1, 0), 1000, guess(8000, 3000, 2, 0)},
		{"the most, and the shortest", guess(8000, 4000, 1, 0), 0, guess(7000, 4000, 2, 0)},
		{"nearly the most", guess(7999, 3999, 1, 0), 1000, guess(8000, 3001, 2, 0)},
		{"nearly the most, and the shortest", guess(7999, 3999, 1, 0), 0, guess(7000, 3999, 2, 0)},
		{"nothing, the Swing the most", guess(0, 4000, 1, 0), 1000, guess(1000, 4000, 2, 0)},
		{"Back is 0 then", guess(80, 20, 1, 1), 10, guess(80, 15, 2, 0)},
		{"Back is 0 then, from the most", guess(80, 20, 1, 6), 18, guess(88, 23, 2, 0)},
		{"Many just below its most", guess(80, 20, 999, 3), 2, guess(72, 23, 1000, 0)},
		{"Many at its most stays", guess(80, 20, 1000, 3), 2, guess(72, 23, 1000, 0)},
	} {
		wantSeen(t, x.what, x.g, took(x.took), x.want)
	}
}

func TestSeenByBits(t *testing.T) {
	above, none, below := 0, 0, 0
	for k, g := range guessesToTry() {
		next := shaker(k)
		near := g.Mean / 8
		for _, n := range []int{0, 1, near - 1, near, near + 1, next(mostTook + 1), 999, 1000} {
			if n < 0 || n > mostTook {
				continue
			}
			switch {
			case n > near:
				above++
			case n < near:
				below++
			default:
				none++
			}
			wantSeen(t, "a clear one", g, took(n), seenBy(g, took(n)))
		}
		wantSeen(t, "one sent Twice", g, twice(next(mostTook+1)), seenBy(g, twice(0)))
		wantSeen(t, "one Lost", g, lost(), seenBy(g, lost()))
		wantWait(t, g, waitBy(g))
	}
	if min(above, none, below) < 5000 {
		t.Error("too few of a kind:", above, none, below)
	}
}

func TestEachTook(t *testing.T) {
	for _, g := range []impl.Guess{{}, guess(mostMean, mostSwing, mostMany, mostBack), guess(80, 20, 1, 0), guess(4003, 1999, 7, 2), guess(4004, 3, 999, 1)} {
		for n := range mostTook + 1 {
			wantSeen(t, "a clear one", g, took(n), seenBy(g, took(n)))
			wantSeen(t, "one sent Twice", g, twice(n), seenBy(g, twice(n)))
		}
	}
}

func TestOneSentTwiceChangesManyAlone(t *testing.T) {
	for _, g := range guessesToTry() {
		for _, n := range []int{0, 1, g.Mean / 8, mostTook} {
			wantSeen(t, "sent Twice", g, twice(n), guess(g.Mean, g.Swing, min(g.Many+1, 1000), g.Back))
		}
	}
}

func TestOneLostChangesBackAlone(t *testing.T) {
	for _, g := range guessesToTry() {
		wantSeen(t, "Lost", g, lost(), guess(g.Mean, g.Swing, g.Many, min(g.Back+1, 6)))
	}
	g := guess(80, 20, 4, 0)
	for _, back := range []int{1, 2, 3, 4, 5, 6, 6, 6, 6} {
		got, ok := impl.SeeGuess(g, lost())
		wantGuess(t, "one more Lost", got, ok, guess(80, 20, 4, back))
		g = got
	}
}

func TestAClearOneEndsTheBack(t *testing.T) {
	for back := range mostBack + 1 {
		for _, g := range []impl.Guess{guess(80, 20, 4, back), guess(87, 3, 0, back), guess(0, 0, 1000, back), guess(8000, 4000, 999, back)} {
			for n := range mostTook + 1 {
				if got, ok := impl.SeeGuess(g, took(n)); got.Back != 0 || !ok {
					t.Errorf("behind %d seen by %v Back is %d, %t", n, g, got.Back, ok)
				}
			}
		}
	}
	for losses := range 10 {
		l := slices.Repeat([]impl.Seen{lost()}, losses)
		for _, x := range []struct {
			l    []impl.Seen
			back int
		}{
			{l, min(losses, 6)},
			{append(slices.Clone(l), twice(9)), min(losses, 6)},
			{append(slices.Clone(l), took(9)), 0},
			{append(slices.Clone(l), took(9), lost()), 1},
			{append(slices.Clone(l), twice(9), lost()), min(losses+1, 6)},
			{append(slices.Clone(l), took(9), twice(9)), 0},
		} {
			if got, ok := impl.SeeAll(10, x.l); got.Back != x.back || !ok {
				t.Errorf("SeeAll of %v: Back is %d, %t, not %d", x.l, got.Back, ok, x.back)
			}
		}
	}
}

func TestWaits(t *testing.T) {
	for _, x := range []struct {
		mean, swing, back, want int
	}{
		{80, 20, 0, 30}, {80, 20, 1, 60}, {80, 20, 2, 120}, {80, 20, 3, 240}, {80, 20, 4, 400}, {80, 20, 5, 400}, {80, 20, 6, 400},
		// Just at MinWait, next to it and below: it is lifted, and doubled then.
		{0, 0, 0, 4}, {0, 1, 0, 4}, {0, 3, 0, 4}, {0, 4, 0, 4}, {0, 5, 0, 5}, {31, 0, 0, 4}, {32, 0, 0, 4}, {39, 0, 0, 4}, {40, 0, 0, 5},
		{16, 2, 0, 4}, {15, 2, 0, 4}, {23, 2, 0, 4}, {24, 2, 0, 5}, {7, 4, 0, 4}, {8, 4, 0, 5}, {7, 3, 0, 4}, {31, 1, 0, 4}, {32, 1, 0, 5},
		{0, 0, 1, 8}, {0, 1, 1, 8}, {0, 3, 1, 8}, {0, 4, 1, 8}, {0, 5, 1, 10}, {0, 0, 2, 16}, {0, 2, 3, 32}, {0, 1, 4, 64}, {0, 3, 5, 128}, {0, 0, 6, 256}, {0, 3, 6, 256}, {31, 0, 6, 256},
		{0, 4, 6, 256}, {0, 5, 6, 320}, {0, 6, 6, 384}, {0, 7, 6, 400}, {55, 0, 6, 384}, {56, 0, 6, 400},
		// Just at MaxWait, next to it and above.
		{0, 399, 0, 399}, {0, 400, 0, 400}, {0, 401, 0, 400}, {3199, 0, 0, 399}, {3200, 0, 0, 400}, {3207, 0, 0, 400}, {3208, 0, 0, 400}, {3192, 1, 0, 400}, {3199, 1, 0, 400}, {3191, 1, 0, 399}, {3199, 2, 0, 400},
		{0, 199, 1, 398}, {0, 200, 1, 400}, {0, 201, 1, 400}, {1599, 0, 1, 398}, {1600, 0, 1, 400},
		{0, 99, 2, 396}, {0, 100, 2, 400}, {0, 101, 2, 400}, {0, 49, 3, 392}, {0, 50, 3, 400}, {0, 51, 3, 400},
		{0, 24, 4, 384}, {0, 25, 4, 400}, {0, 26, 4, 400}, {0, 12, 5, 384}, {0, 13, 5, 400},
		{8000, 0, 0, 400}, {0, 4000, 0, 400}, {8000, 4000, 0, 400}, {8000, 4000, 6, 400},
		// Parts of a tick are left out ahead of being doubled.
		{87, 0, 0, 10}, {87, 0, 1, 20}, {87, 0, 3, 80}, {87, 3, 0, 13}, {87, 3, 1, 26}, {44, 6, 2, 44},
	} {
		for _, many := range []int{0, 1, 500, 1000} {
			wantWait(t, guess(x.mean, x.swing, many, x.back), x.want)
		}
	}
}

// wantDoubled follows a guess over more losses than Back counts.
func wantDoubled(t *testing.T, g impl.Guess) (int, int, int) {
	t.Helper()
	doubled, bounded, stayed := 0, 0, 0
	for range mostBack + 3 {
		wait, ok := impl.WaitOf(g)
		next, seen := impl.SeeGuess(g, lost())
		longer, is := impl.WaitOf(next)
		want := wait
		switch {
		case g.Back == mostBack:
			stayed++
		case 2*wait > impl.MaxWait:
			want = impl.MaxWait
			bounded++
		default:
			want = 2 * wait
			doubled++
		}
		if !ok || !seen || !is || longer != want {
			t.Errorf("behind one more Lost than %v it waits %d, not %d", g, longer, want)
		}
		g = next
	}
	return doubled, bounded, stayed
}

func TestALossDoublesTheWait(t *testing.T) {
	doubled, bounded, stayed := 0, 0, 0
	for _, g := range guessesToTry() {
		d, b, s := wantDoubled(t, g)
		doubled, bounded, stayed = doubled+d, bounded+b, stayed+s
	}
	for mean := range 60 {
		for swing := range 9 {
			d, b, s := wantDoubled(t, guess(mean, swing, 1, 0))
			doubled, bounded, stayed = doubled+d, bounded+b, stayed+s
		}
	}
	if min(doubled, bounded, stayed) < 1000 {
		t.Error("too few of a kind:", doubled, bounded, stayed)
	}
	for losses, want := range []int{4, 8, 16, 32, 64, 128, 256, 256, 256} {
		g, ok := impl.SeeAll(1, slices.Repeat([]impl.Seen{lost()}, losses))
		wantGuess(t, fmt.Sprint(losses, " Lost"), g, ok, guess(8, 2, 1, min(losses, 6)))
		wantWait(t, g, want)
	}
}

func TestAllSeenOneByOne(t *testing.T) {
	for _, x := range append(seenToTry(6), smallSeen()...) {
		got, ok := impl.SeeAll(x.first, x.l)
		wantGuess(t, fmt.Sprintf("SeeAll(%d, %v) by bits", x.first, x.l), got, ok, allSeenBy(x.first, x.l))
		step, fine := impl.NewGuess(x.first)
		for _, y := range x.l {
			if fine {
				step, fine = impl.SeeGuess(step, y)
			}
		}
		if !fine || step != got {
			t.Errorf("SeeAll(%d, %v): %v, one by one %v", x.first, x.l, got, step)
		}
	}
}

func TestAllSeenOfNoneOfOneAndOfTheMost(t *testing.T) {
	for _, none := range [][]impl.Seen{nil, {}, withHidden[impl.Seen](nil, took(7))} {
		got, ok := impl.SeeAll(10, none)
		wantGuess(t, "none", got, ok, guess(80, 20, 1, 0))
	}
	for _, x := range []struct {
		what string
		l    []impl.Seen
		want impl.Guess
	}{
		{"one", tooks(18), guess(88, 23, 2, 0)},
		{"one sent Twice", []impl.Seen{twice(18)}, guess(80, 20, 2, 0)},
		{"one Lost", []impl.Seen{lost()}, guess(80, 20, 1, 1)},
		{"two", tooks(18, 3), guess(80, 26, 3, 0)},
		{"the other way round", tooks(3, 18), guess(82, 26, 3, 0)},
		{"one of each", []impl.Seen{lost(), twice(500), took(18)}, guess(88, 23, 3, 0)},
		{"one of each, the Lost one last", []impl.Seen{took(18), twice(500), lost()}, guess(88, 23, 3, 1)},
		{"60 alike", slices.Repeat(tooks(10), mostSeen), guess(80, 3, 61, 0)},
		{"60 sent Twice", slices.Repeat([]impl.Seen{twice(1000)}, mostSeen), guess(80, 20, 61, 0)},
		{"60 Lost", slices.Repeat([]impl.Seen{lost()}, mostSeen), guess(80, 20, 1, 6)},
		{"59 Lost and one behind", append(slices.Repeat([]impl.Seen{lost()}, mostSeen-1), took(18)), guess(88, 23, 2, 0)},
	} {
		got, ok := impl.SeeAll(10, x.l)
		wantGuess(t, x.what, got, ok, x.want)
	}
	for kind := range 5 {
		for many := mostSeen - 2; many <= mostSeen+3; many++ {
			l := shakenSeen(many, kind, 5, many)
			got, ok := impl.SeeAll(33, l)
			if many <= 60 {
				wantGuess(t, fmt.Sprint(many, " seen"), got, ok, allSeenBy(33, l))
			} else {
				wantNoGuess(t, fmt.Sprint(many, " seen"), got, ok)
			}
		}
	}
}

// wantBetween tells whether the guess, in whole ticks, lies just at the least, and just at the greatest.
func wantBetween(t *testing.T, first int, l []impl.Seen) (bool, bool) {
	t.Helper()
	g, ok := impl.SeeAll(first, l)
	least, greatest := first, first
	if lo, hi, some := impl.RangeOf(l); some {
		least, greatest = min(lo, first), max(hi, first)
	}
	if !ok || g.Mean < 8*least || g.Mean > 8*greatest {
		t.Errorf("SeeAll(%d, %v): %v, %t lies not between %d and %d", first, l, g, ok, least, greatest)
	}
	return least < greatest && g.Mean/8 == least, least < greatest && g.Mean/8 == greatest
}

func TestAGuessLiesBetweenTheLeastAndTheGreatest(t *testing.T) {
	atLeast, atGreatest := 0, 0
	count := func(first int, l []impl.Seen) {
		low, high := wantBetween(t, first, l)
		if low {
			atLeast++
		}
		if high {
			atGreatest++
		}
	}
	for _, x := range append(seenToTry(10), smallSeen()...) {
		count(x.first, x.l)
	}
	// Long ones that draw nearer and nearer to one end, from the other one or from next to it.
	for n := range mostTook + 1 {
		for _, first := range []int{1, 2, max(n-1, 1), max(n, 1), min(n+1, 1000), 999, 1000} {
			for _, many := range []int{1, 7, 8, 9, mostSeen} {
				count(first, slices.Repeat(tooks(n), many))
			}
		}
	}
	for _, l := range [][]impl.Seen{tooks(0, 1), tooks(1000, 999), tooks(0, 1000), tooks(500, 501), tooks(8, 9, 7)} {
		for _, first := range []int{1, 8, 500, 999, 1000} {
			count(first, slices.Repeat(l, mostSeen/len(l)))
		}
	}
	if atLeast < 100 || atGreatest < 100 {
		t.Error("too few that lie just at an end:", atLeast, atGreatest)
	}
}

func TestWhatWasSentTwiceOrLostDoesNotMoveTheGuess(t *testing.T) {
	moved := 0
	for _, x := range append(seenToTry(6), smallSeen()...) {
		left := clearOnes(x.l)
		got, ok := impl.SeeAll(x.first, x.l)
		want, fine := impl.SeeAll(x.first, left)
		if !ok || !fine || got.Mean != want.Mean || got.Swing != want.Swing {
			t.Errorf("SeeAll(%d, %v): %v, of the clear ones alone %v", x.first, x.l, got, want)
		}
		if len(left) < len(x.l) && len(left) > 0 {
			moved++
		}
	}
	if moved < 500 {
		t.Error("too few with both kinds:", moved)
	}
	clear := tooks(12, 900, 0, 37, 36, 1000, 5)
	want, _ := impl.SeeAll(20, clear)
	for at := range len(clear) + 1 {
		for _, x := range []impl.Seen{twice(0), twice(20), twice(1000), lost()} {
			got, ok := impl.SeeAll(20, slices.Insert(slices.Clone(clear), at, x))
			if got.Mean != want.Mean || got.Swing != want.Swing || !ok {
				t.Errorf("with %v at %d: %v, %t, not %v", x, at, got, ok, want)
			}
		}
	}
}

func TestRanges(t *testing.T) {
	for n := range mostTook + 1 {
		wantRange(t, tooks(n), n, n)
		wantRange(t, slices.Repeat(tooks(n), 1+n%mostSeen), n, n)
	}
	for _, x := range []struct {
		l               []impl.Seen
		least, greatest int
	}{
		{tooks(5, 9), 5, 9},
		{tooks(9, 5), 5, 9},
		{tooks(5, 9, 7), 5, 9},
		{tooks(7, 9, 5), 5, 9},
		{tooks(7, 5, 9), 5, 9},
		{tooks(0, 1000), 0, 1000},
		{tooks(1000, 0), 0, 1000},
		{tooks(0, 0), 0, 0},
		{tooks(1000, 1000, 1000), 1000, 1000},
		{[]impl.Seen{took(5), lost(), took(9)}, 5, 9},
		{[]impl.Seen{took(5), twice(1), took(9)}, 5, 9},
		{[]impl.Seen{took(5), twice(1000), took(9)}, 5, 9},
		{[]impl.Seen{lost(), took(5), twice(0), lost(), took(9), twice(1000)}, 5, 9},
		{[]impl.Seen{twice(0), took(6)}, 6, 6},
		{[]impl.Seen{took(6), twice(1000)}, 6, 6},
		{[]impl.Seen{lost(), took(6), lost()}, 6, 6},
		{[]impl.Seen{lost(), took(1000), lost()}, 1000, 1000},
		{[]impl.Seen{twice(7), took(0), twice(7)}, 0, 0},
	} {
		wantRange(t, x.l, x.least, x.greatest)
	}
	some := 0
	for _, x := range append(seenToTry(6), smallSeen()...) {
		if all := tooksOf(clearOnes(x.l)); len(all) > 0 {
			wantRange(t, x.l, slices.Min(all), slices.Max(all))
			some++
		} else {
			wantNoRange(t, x.l)
		}
	}
	if some < 1000 {
		t.Error("too few ranges:", some)
	}
	// A limit of how many there are is told for SeeAll alone.
	wantRange(t, append(slices.Repeat(tooks(5), mostSeen), took(9)), 5, 9)
	wantRange(t, append(slices.Repeat(tooks(5), 1000), took(0)), 0, 5)
}

func TestRangesOfNone(t *testing.T) {
	for _, l := range [][]impl.Seen{
		nil,
		{},
		withHidden[impl.Seen](nil, took(7)),
		{lost()},
		{twice(0)},
		{twice(1000)},
		{twice(5), lost(), twice(9)},
		slices.Repeat([]impl.Seen{lost()}, mostSeen),
		slices.Repeat([]impl.Seen{twice(44)}, mostSeen),
		slices.Repeat([]impl.Seen{lost(), twice(44)}, mostSeen),
	} {
		wantNoRange(t, l)
	}
}

var wrongSeens = []impl.Seen{
	took(-1), took(-2), took(-1000), took(1001), took(1002), took(100000),
	took(math.MinInt), took(math.MinInt + 1), took(math.MaxInt), took(math.MaxInt - 1),
	twice(-1), twice(1001), twice(math.MinInt), twice(math.MaxInt),
	{Took: 1, Lost: true}, {Took: 10, Lost: true}, {Took: 1000, Lost: true}, {Took: -1, Lost: true}, {Took: 1001, Lost: true},
	{Took: math.MinInt, Lost: true}, {Took: math.MaxInt, Lost: true},
	{Lost: true, Twice: true}, {Took: 1, Lost: true, Twice: true}, {Took: 1000, Lost: true, Twice: true}, {Took: -1, Lost: true, Twice: true},
	{Took: math.MinInt, Lost: true, Twice: true}, {Took: math.MaxInt, Lost: true, Twice: true},
}

// wrongGuesses have one wrong number, or more, among the least and the greatest good ones.
func wrongGuesses() []impl.Guess {
	far := []int{-1, -2, -8, -8000, 8001, 8002, math.MinInt, math.MinInt + 1, math.MaxInt, math.MaxInt - 1}
	var all []impl.Guess
	for _, g := range []impl.Guess{{}, guess(mostMean, mostSwing, mostMany, mostBack), guess(83, 17, 9, 2)} {
		for _, n := range far {
			all = append(all,
				guess(n, g.Swing, g.Many, g.Back), guess(g.Mean, n, g.Many, g.Back),
				guess(g.Mean, g.Swing, n, g.Back), guess(g.Mean, g.Swing, g.Many, n), guess(n, n, n, n))
		}
		all = append(all,
			guess(g.Mean, 4001, g.Many, g.Back), guess(g.Mean, g.Swing, 1001, g.Back),
			guess(g.Mean, g.Swing, g.Many, 7), guess(g.Mean, g.Swing, g.Many, 63), guess(g.Mean, g.Swing, g.Many, 64),
			guess(8001, 4001, 1001, 7))
	}
	return append(all, guess(math.MaxInt, math.MaxInt, 1, 1), guess(math.MinInt, math.MaxInt, 1, 1), guess(math.MaxInt, math.MinInt, 1, 1))
}

func TestWrongFirstOnesAreRefused(t *testing.T) {
	for _, first := range []int{0, -1, -2, -1000, 1001, 1002, 8000, math.MinInt, math.MinInt + 1, math.MaxInt, math.MaxInt - 1} {
		got, ok := impl.NewGuess(first)
		wantNoGuess(t, fmt.Sprint("NewGuess ", first), got, ok)
		for _, l := range [][]impl.Seen{nil, tooks(1), {lost()}, {twice(4)}, slices.Repeat(tooks(5), mostSeen), wrongSeens[:1], slices.Repeat(tooks(5), mostSeen+1)} {
			got, ok := impl.SeeAll(first, l)
			wantNoGuess(t, fmt.Sprintf("SeeAll(%d, %v)", first, l), got, ok)
		}
	}
}

func TestWrongGuessesAreRefused(t *testing.T) {
	for _, g := range wrongGuesses() {
		if impl.GoodGuess(g) {
			t.Errorf("%v is good", g)
		}
		if n, ok := impl.WaitOf(g); n != 0 || ok {
			t.Errorf("WaitOf %v: %d, %t", g, n, ok)
		}
		for _, x := range append([]impl.Seen{took(0), took(10), took(1000), twice(0), twice(1000), lost()}, wrongSeens...) {
			got, ok := impl.SeeGuess(g, x)
			wantNoGuess(t, fmt.Sprintf("SeeGuess(%v, %v)", g, x), got, ok)
		}
	}
}

func TestWrongSeenAreRefused(t *testing.T) {
	for _, x := range wrongSeens {
		for _, g := range []impl.Guess{{}, guess(80, 20, 1, 0), guess(mostMean, mostSwing, mostMany, mostBack)} {
			got, ok := impl.SeeGuess(g, x)
			wantNoGuess(t, fmt.Sprintf("SeeGuess(%v, %v)", g, x), got, ok)
		}
		for many := 1; many <= mostSeen; many++ {
			for _, at := range []int{0, many / 2, many - 1} {
				for _, other := range []impl.Seen{took(5), twice(5), lost()} {
					l := slices.Repeat([]impl.Seen{other}, many)
					l[at] = x
					got, ok := impl.SeeAll(10, l)
					wantNoGuess(t, fmt.Sprintf("SeeAll with %v at %d of %d", x, at, many), got, ok)
					wantNoRange(t, l)
				}
			}
		}
	}
}

func TestMoreSeenThanMayBeAreRefused(t *testing.T) {
	for _, many := range []int{mostSeen + 1, mostSeen + 2, 2 * mostSeen, 1000} {
		for _, x := range []impl.Seen{took(0), took(10), took(1000), twice(10), lost(), wrongSeens[0]} {
			got, ok := impl.SeeAll(10, slices.Repeat([]impl.Seen{x}, many))
			wantNoGuess(t, fmt.Sprintf("SeeAll of %d times %v", many, x), got, ok)
		}
	}
}

func TestSeenAreNotWrittenIntoNorReadBehindTheirLength(t *testing.T) {
	var lists [][]impl.Seen
	for _, x := range append(seenToTry(1), smallSeen()...) {
		lists = append(lists, x.l)
	}
	for _, x := range wrongSeens {
		lists = append(lists, []impl.Seen{x}, []impl.Seen{took(4), x, lost()})
	}
	lists = append(lists, slices.Repeat(tooks(5), mostSeen+1), slices.Repeat([]impl.Seen{lost()}, 100))
	for _, were := range lists {
		plain, fine := impl.SeeAll(10, slices.Clip(were))
		lo, hi, some := impl.RangeOf(slices.Clip(were))
		// What lies behind is wrong, or good and far from all others.
		for _, hidden := range []impl.Seen{took(-7), {Took: 77, Lost: true}, took(0), took(1000), twice(3), lost()} {
			l := withHidden(were, hidden)
			got, ok := impl.SeeAll(10, l)
			if got != plain || ok != fine {
				t.Errorf("SeeAll of %v with %v behind: %v, %t, not %v, %t", were, hidden, got, ok, plain, fine)
			}
			wantUnchanged(t, "SeeAll", l, were, hidden)
			least, greatest, is := impl.RangeOf(l)
			if least != lo || greatest != hi || is != some {
				t.Errorf("RangeOf %v with %v behind: %d, %d, %t, not %d, %d, %t", were, hidden, least, greatest, is, lo, hi, some)
			}
			wantUnchanged(t, "RangeOf", l, were, hidden)
		}
	}
}

func TestGuessesHangOnWhatIsGivenAlone(t *testing.T) {
	g := guess(87, 23, 5, 3)
	for range 3 {
		for _, x := range []struct {
			seen impl.Seen
			want impl.Guess
		}{
			{took(30), guess(107, 38, 6, 0)},
			{twice(30), guess(87, 23, 6, 3)},
			{lost(), guess(87, 23, 5, 4)},
		} {
			wantSeen(t, "the same guess once more", g, x.seen, x.want)
		}
		impl.SeeGuess(g, took(-1))
		impl.SeeAll(7, slices.Repeat([]impl.Seen{lost()}, mostSeen))
		got, ok := impl.SeeAll(10, tooks(18))
		wantGuess(t, "SeeAll once more", got, ok, guess(88, 23, 2, 0))
		wantWait(t, g, 264)
	}
}
