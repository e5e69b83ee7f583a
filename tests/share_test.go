package tests

import (
	"fmt"
	"math"
	"math/big"
	"slices"
	"testing"

	"loop.example/g00527/impl"
)

// mostWindow and mostRoom are the greatest window and the greatest Room.
const (
	mostWindow = 10000
	mostRoom   = 40000
)

func shares(room int, wins ...int) impl.Shares {
	return impl.Shares{Wins: wins, Room: room}
}

func sameShares(a, b impl.Shares) bool {
	return slices.Equal(a.Wins, b.Wins) && a.Room == b.Room
}

// The ones from here on are written apart from the program, to be held against it.

// roomLeft takes the windows off the Room one by one, and goes on below nought.
func roomLeft(s impl.Shares) int {
	left := s.Room
	for _, win := range s.Wins {
		left -= win
	}
	return left
}

// grownBy tells false where a window came to be too great.
func grownBy(s impl.Shares, by int) (impl.Shares, bool) {
	next := shares(s.Room)
	for _, win := range s.Wins {
		next.Wins = append(next.Wins, win+by)
	}
	return next, slices.Max(next.Wins) <= mostWindow
}

// halfAsMuch drops the last bit of each window.
func halfAsMuch(s impl.Shares) impl.Shares {
	next := shares(s.Room)
	for _, win := range s.Wins {
		half := win >> 1
		if half == 0 {
			half = 1
		}
		next.Wins = append(next.Wins, half)
	}
	return next
}

func roundBy(s impl.Shares) (impl.Shares, bool, bool) {
	if roomLeft(s) < 0 {
		return halfAsMuch(s), true, true
	}
	next, ok := grownBy(s, 1)
	return next, false, ok
}

// roundsBy goes over as many rounds at once as nothing is halved in.
func roundsBy(s impl.Shares, many int) (impl.Shares, int, bool) {
	halves := 0
	for many > 0 {
		if roomLeft(s) < 0 {
			s = halfAsMuch(s)
			halves++
			many--
			continue
		}
		grows := min(roomLeft(s)/len(s.Wins)+1, many)
		next, ok := grownBy(s, grows)
		if !ok {
			return impl.Shares{}, 0, false
		}
		s = next
		many -= grows
	}
	return s, halves, true
}

func widestPair(s impl.Shares) int {
	widest := 0
	for _, one := range s.Wins {
		for _, other := range s.Wins {
			widest = max(widest, one-other)
		}
	}
	return widest
}

// fairnessByPairs: the first number is what all pairs multiplied make, the second one is more by what the squares of their differences make (Lagrange).
func fairnessByPairs(s impl.Shares) (int, int) {
	products, differences := 0, 0
	for k, one := range s.Wins {
		for j, other := range s.Wins {
			products += one * other
			if j < k {
				differences += (one - other) * (one - other)
			}
		}
	}
	return products, products + differences
}

func fractionOf(s impl.Shares) *big.Rat {
	upper, lower := fairnessByPairs(s)
	return big.NewRat(int64(upper), int64(lower))
}

// shakenWindows are of a kind: 0 few bits, 1 all there are, 2 near to the greatest, 3 alike, 4 next to each other, 5 a great one among small ones, 6 twos times something.
func shakenWindows(many, kind int, next func(upto int) int) []int {
	wins := make([]int, many)
	base := 1 + next(mostWindow)
	great := next(many)
	for k := range wins {
		switch kind {
		case 0:
			wins[k] = 1 + next(12)
		case 1:
			wins[k] = 1 + next(mostWindow)
		case 2:
			wins[k] = mostWindow - next(3)*next(20)
		case 3:
			wins[k] = base
		case 4:
			wins[k] = max(base-next(2), 1)
		case 5:
			wins[k] = 1 + next(4)
			if k == great {
				wins[k] = base
			}
		default:
			wins[k] = 1 << next(14)
		}
	}
	return wins
}

// roomsFor are those next to what all windows are together, and the ends.
func roomsFor(wins []int) []int {
	var rooms []int
	all := -roomLeft(impl.Shares{Wins: wins})
	for _, room := range []int{1, all / 2, all - 1, all, all + 1, 2 * all, mostRoom} {
		if room >= 1 && room <= mostRoom {
			rooms = append(rooms, room)
		}
	}
	return rooms
}

func sharesToTry(each int) []impl.Shares {
	var all []impl.Shares
	for many := 1; many <= impl.MaxSenders; many++ {
		for kind := range 7 {
			for seed := range each {
				wins := shakenWindows(many, kind, shaker(1000*many+100*kind+seed))
				for _, room := range roomsFor(wins) {
					all = append(all, shares(room, slices.Clone(wins)...))
				}
			}
		}
	}
	return all
}

// smallShares are all up to three windows of up to five.
func smallShares() []impl.Shares {
	var all []impl.Shares
	for room := 1; room <= 17; room++ {
		for a := 1; a <= 5; a++ {
			all = append(all, shares(room, a))
			for b := 1; b <= 5; b++ {
				all = append(all, shares(room, a, b))
				for c := 1; c <= 5; c++ {
					all = append(all, shares(room, a, b, c))
				}
			}
		}
	}
	return all
}

func wantShares(t *testing.T, what string, got impl.Shares, ok bool, want impl.Shares) {
	t.Helper()
	if !ok || !sameShares(got, want) {
		t.Errorf("%s: %v, %t, not %v", what, got, ok, want)
	}
	if !impl.GoodShares(got) {
		t.Errorf("%s: %v is not good", what, got)
	}
}

func wantNoShares(t *testing.T, what string, got impl.Shares, ok bool) {
	t.Helper()
	if ok || !sameShares(got, impl.Shares{}) {
		t.Errorf("%s: %v, %t, not the zero answer", what, got, ok)
	}
}

func wantRound(t *testing.T, s, want impl.Shares, halved bool) {
	t.Helper()
	what := fmt.Sprint("RoundOf ", s)
	got, half, ok := impl.RoundOf(s)
	wantShares(t, what, got, ok, want)
	if half != halved {
		t.Errorf("%s: %t whether it was HalveAll", what, half)
	}
}

func wantNoRound(t *testing.T, s impl.Shares) {
	t.Helper()
	what := fmt.Sprint("RoundOf ", s)
	got, half, ok := impl.RoundOf(s)
	wantNoShares(t, what, got, ok)
	if half {
		t.Errorf("%s: true whether it was HalveAll", what)
	}
}

func wantRounds(t *testing.T, s impl.Shares, many int, want impl.Shares, halves int) {
	t.Helper()
	what := fmt.Sprintf("RoundsOf(%v, %d)", s, many)
	got, count, ok := impl.RoundsOf(s, many)
	wantShares(t, what, got, ok, want)
	if count != halves {
		t.Errorf("%s: %d times HalveAll, not %d", what, count, halves)
	}
}

func wantNoRounds(t *testing.T, s impl.Shares, many int) {
	t.Helper()
	what := fmt.Sprintf("RoundsOf(%v, %d)", s, many)
	got, count, ok := impl.RoundsOf(s, many)
	wantNoShares(t, what, got, ok)
	if count != 0 {
		t.Errorf("%s: %d times HalveAll", what, count)
	}
}

func wantSpread(t *testing.T, s impl.Shares, want int) {
	t.Helper()
	if got, ok := impl.SpreadOf(s); got != want || !ok {
		t.Errorf("SpreadOf %v: %d, %t, not %d", s, got, ok, want)
	}
}

func wantFairness(t *testing.T, s impl.Shares, upper, lower int) {
	t.Helper()
	if p, q, ok := impl.FairnessOf(s); p != upper || q != lower || !ok {
		t.Errorf("FairnessOf %v: %d, %d, %t, not %d, %d", s, p, q, ok, upper, lower)
	}
}

func wantFairer(t *testing.T, a, b impl.Shares, want bool) {
	t.Helper()
	if is, ok := impl.IsFairer(a, b); is != want || !ok {
		t.Errorf("IsFairer(%v, %v): %t, %t, not %t", a, b, is, ok, want)
	}
}

func wantNotComparable(t *testing.T, a, b impl.Shares) {
	t.Helper()
	if is, ok := impl.IsFairer(a, b); is || ok {
		t.Errorf("IsFairer(%v, %v): %t, %t, not the zero answer", a, b, is, ok)
	}
}

func TestLimitsOfShares(t *testing.T) {
	if impl.MaxSenders != 5 || impl.MaxRounds != 40 {
		t.Error(impl.MaxSenders, impl.MaxRounds)
	}
}

func TestSharesJustWithinTheirLimits(t *testing.T) {
	for many := 1; many <= 5; many++ {
		for _, room := range []int{1, 2, 20000, 39999, 40000} {
			for at := range many {
				for _, win := range []int{1, 2, 5000, 9999, 10000} {
					for _, other := range []int{1, 77, 10000} {
						s := shares(room, slices.Repeat([]int{other}, many)...)
						s.Wins[at] = win
						if !impl.GoodShares(s) {
							t.Errorf("%v is not good", s)
						}
					}
				}
			}
		}
	}
	for _, s := range append(sharesToTry(5), smallShares()...) {
		if !impl.GoodShares(s) {
			t.Errorf("%v is not good", s)
		}
	}
}

func TestAllGrowByOne(t *testing.T) {
	for _, x := range []struct{ from, want impl.Shares }{
		{shares(1, 1), shares(1, 2)},
		{shares(8, 1, 9), shares(8, 2, 10)},
		{shares(8, 9, 1), shares(8, 10, 2)},
		{shares(40000, 5, 5, 5), shares(40000, 6, 6, 6)},
		{shares(1, 9999), shares(1, 10000)},
		{shares(7, 9999, 1, 9998, 2, 9999), shares(7, 10000, 2, 9999, 3, 10000)},
	} {
		got, ok := impl.GrowAll(x.from)
		wantShares(t, fmt.Sprint("GrowAll ", x.from), got, ok, x.want)
	}
	for win := 1; win < mostWindow; win++ {
		got, ok := impl.GrowAll(shares(9, win, mostWindow-win))
		wantShares(t, fmt.Sprint("GrowAll with ", win), got, ok, shares(9, win+1, mostWindow-win+1))
	}
	grew, refused := 0, 0
	for _, s := range append(sharesToTry(10), smallShares()...) {
		got, ok := impl.GrowAll(s)
		if want, fine := grownBy(s, 1); fine {
			wantShares(t, fmt.Sprint("GrowAll ", s), got, ok, want)
			grew++
		} else {
			wantNoShares(t, fmt.Sprint("GrowAll ", s), got, ok)
			refused++
		}
	}
	if grew < 1000 || refused < 20 {
		t.Error("too few of a kind:", grew, refused)
	}
}

func TestAllAreHalved(t *testing.T) {
	for _, x := range []struct{ from, want impl.Shares }{
		{shares(1, 1), shares(1, 1)},
		{shares(1, 2), shares(1, 1)},
		{shares(1, 3), shares(1, 1)},
		{shares(1, 4), shares(1, 2)},
		{shares(1, 5), shares(1, 2)},
		{shares(8, 1, 9), shares(8, 1, 4)},
		{shares(8, 8, 9), shares(8, 4, 4)},
		{shares(40000, 10, 20, 30), shares(40000, 5, 10, 15)},
		{shares(40000, 11, 21, 31), shares(40000, 5, 10, 15)},
		{shares(6, 1, 2, 3, 4, 5), shares(6, 1, 1, 1, 2, 2)},
		{shares(6, 5, 4, 3, 2, 1), shares(6, 2, 2, 1, 1, 1)},
		{shares(6, 1, 1, 1, 1, 1), shares(6, 1, 1, 1, 1, 1)},
		{shares(6, 9999, 10000), shares(6, 4999, 5000)},
		{shares(6, 10000, 10000, 10000, 10000, 10000), shares(6, 5000, 5000, 5000, 5000, 5000)},
	} {
		got, ok := impl.HalveAll(x.from)
		wantShares(t, fmt.Sprint("HalveAll ", x.from), got, ok, x.want)
	}
	for half := 1; half < mostWindow/2; half++ {
		got, ok := impl.HalveAll(shares(3, 2*half, 2*half+1, 2*half+2))
		wantShares(t, fmt.Sprint("HalveAll next to ", 2*half), got, ok, shares(3, half, half, half+1))
	}
	for _, s := range append(sharesToTry(10), smallShares()...) {
		got, ok := impl.HalveAll(s)
		wantShares(t, fmt.Sprint("HalveAll ", s), got, ok, halfAsMuch(s))
	}
}

func TestARoundNextToTheRoom(t *testing.T) {
	for _, x := range []struct {
		from, want impl.Shares
		half       bool
	}{
		{shares(1, 1), shares(1, 2), false},
		{shares(1, 2), shares(1, 1), true},
		{shares(1, 1, 1), shares(1, 1, 1), true},
		{shares(2, 1, 1), shares(2, 2, 2), false},
		{shares(8, 1, 9), shares(8, 1, 4), true},
		{shares(9, 1, 9), shares(9, 1, 4), true},
		{shares(10, 1, 9), shares(10, 2, 10), false},
		{shares(11, 1, 9), shares(11, 2, 10), false},
		// One window alone is above the Room, or just as great.
		{shares(8, 9), shares(8, 4), true},
		{shares(9, 9), shares(9, 10), false},
		{shares(9, 9, 1), shares(9, 4, 1), true},
		// The greatest ones are halved where they are above the Room, and may not grow where they are not.
		{shares(9999, 10000), shares(9999, 5000), true},
		{shares(39999, 10000, 10000, 10000, 10000), shares(39999, 5000, 5000, 5000, 5000), true},
		{shares(40000, 10000, 10000, 10000, 10000, 1), shares(40000, 5000, 5000, 5000, 5000, 1), true},
		{shares(40000, 10000, 10000, 10000, 10000, 10000), shares(40000, 5000, 5000, 5000, 5000, 5000), true},
		{shares(40000, 8000, 8000, 8000, 8000, 8000), shares(40000, 8001, 8001, 8001, 8001, 8001), false},
		{shares(40000, 8001, 8000, 8000, 8000, 8000), shares(40000, 4000, 4000, 4000, 4000, 4000), true},
		{shares(39999, 8000, 8000, 8000, 8000, 8000), shares(39999, 4000, 4000, 4000, 4000, 4000), true},
		{shares(9999, 9999), shares(9999, 10000), false},
		{shares(40000, 9999), shares(40000, 10000), false},
	} {
		wantRound(t, x.from, x.want, x.half)
	}
	less, just, more, refused := 0, 0, 0, 0
	for _, s := range append(sharesToTry(10), smallShares()...) {
		want, half, ok := roundBy(s)
		if !ok {
			wantNoRound(t, s)
			refused++
			continue
		}
		wantRound(t, s, want, half)
		switch left := roomLeft(s); {
		case left == 0:
			just++
		case left == 1:
			less++
		case left == -1:
			more++
		}
	}
	if min(less, just, more) < 200 || refused < 20 {
		t.Error("too few of a kind:", less, just, more, refused)
	}
}

func TestARoundIsOneOfBoth(t *testing.T) {
	for _, s := range append(sharesToTry(5), smallShares()...) {
		got, half, ok := impl.RoundOf(s)
		want, fine := impl.GrowAll(s)
		if roomLeft(s) < 0 {
			want, fine = impl.HalveAll(s)
		}
		if ok != fine || !sameShares(got, want) || half != (roomLeft(s) < 0) {
			t.Errorf("RoundOf %v: %v, %t, %t, and the one of both %v, %t", s, got, half, ok, want, fine)
		}
	}
}

func TestRoundsOfNoneOfOneAndOfTheMost(t *testing.T) {
	for _, s := range append(sharesToTry(5), smallShares()...) {
		wantRounds(t, s, 0, s, 0)
		got, count, ok := impl.RoundsOf(s, 1)
		want, half, fine := impl.RoundOf(s)
		if ok != fine || !sameShares(got, want) || count > 1 || half != (count == 1) {
			t.Errorf("RoundsOf(%v, 1): %v, %d, %t, and RoundOf %v, %t, %t", s, got, count, ok, want, half, fine)
		}
	}
	for _, x := range []struct {
		from   impl.Shares
		many   int
		want   impl.Shares
		halves int
	}{
		{shares(8, 1, 9), 1, shares(8, 1, 4), 1},
		{shares(8, 1, 9), 2, shares(8, 2, 5), 1},
		{shares(8, 1, 9), 3, shares(8, 3, 6), 1},
		{shares(8, 1, 9), 4, shares(8, 1, 3), 2},
		{shares(8, 1, 9), 7, shares(8, 4, 6), 2},
		{shares(8, 1, 9), 8, shares(8, 2, 3), 3},
		{shares(8, 1, 9), 10, shares(8, 4, 5), 3},
		{shares(8, 1, 9), 11, shares(8, 2, 2), 4},
		// Two of them above the Room even where both are least: they are halved each time.
		{shares(1, 9, 9), 40, shares(1, 1, 1), 40},
		{shares(1, 1), 40, shares(1, 1), 20},
		{shares(1, 1), 39, shares(1, 2), 19},
		{shares(40000, 1, 2, 3, 4, 5), 40, shares(40000, 41, 42, 43, 44, 45), 0},
		{shares(40000, 9960), 40, shares(40000, 10000), 0},
		{shares(10000, 9960), 40, shares(10000, 10000), 0},
		{shares(9999, 9960), 40, shares(9999, 10000), 0},
		{shares(9998, 9960), 40, shares(9998, 4999), 1},
		{shares(40000, 10000, 10000, 10000, 10000, 10000), 40, shares(40000, 5039, 5039, 5039, 5039, 5039), 1},
	} {
		wantRounds(t, x.from, x.many, x.want, x.halves)
	}
}

func TestRoundsOneByOne(t *testing.T) {
	told, refused, some := 0, 0, 0
	for _, s := range append(sharesToTry(8), smallShares()...) {
		step, halves, fine := s, 0, true
		for many := 1; many <= impl.MaxRounds; many++ {
			if fine {
				next, half, ok := impl.RoundOf(step)
				step, fine = next, ok
				if half {
					halves++
				}
			}
			want, count, same := roundsBy(s, many)
			if same != fine {
				t.Fatalf("%d rounds from %v one by one: %t, not %t", many, s, fine, same)
			}
			if !fine {
				wantNoRounds(t, s, many)
				refused++
				continue
			}
			if !sameShares(step, want) || count != halves {
				t.Errorf("%d rounds from %v one by one: %v, %d, at once %v, %d", many, s, step, halves, want, count)
			}
			wantRounds(t, s, many, want, count)
			told++
			if halves > 0 && halves < many {
				some++
			}
		}
	}
	if told < 10000 || refused < 1000 || some < 10000 {
		t.Error("too few of a kind:", told, refused, some)
	}
}

func TestRoundsThatEndAtTheGreatestWindow(t *testing.T) {
	// From here on the greatest one may grow so often, and in a Room this great nothing is halved.
	for left := range impl.MaxRounds + 1 {
		for many := range impl.MaxRounds + 1 {
			from := shares(mostRoom, 1, mostWindow-left, 5)
			if many <= left {
				wantRounds(t, from, many, shares(mostRoom, 1+many, mostWindow-left+many, 5+many), 0)
			} else {
				wantNoRounds(t, from, many)
			}
		}
	}
	// With a Room of one less it is halved in time, in the midst of the rounds.
	for many := range impl.MaxRounds + 1 {
		soon, late := shares(9999, 9999), shares(10000, 9999)
		if many < 2 {
			wantRounds(t, soon, many, shares(9999, 9999+many), 0)
			wantRounds(t, late, many, shares(10000, 9999+many), 0)
		} else {
			wantRounds(t, soon, many, shares(9999, 5000+many-2), 1)
			wantNoRounds(t, late, many)
		}
	}
}

func TestSpreads(t *testing.T) {
	for _, x := range []struct {
		s    impl.Shares
		want int
	}{
		{shares(8, 1, 9), 8},
		{shares(8, 9, 1), 8},
		{shares(8, 5, 1, 9), 8},
		{shares(8, 5, 9, 1), 8},
		{shares(8, 9, 5, 1), 8},
		{shares(8, 3, 4), 1},
		{shares(1, 1, 10000), 9999},
		{shares(1, 10000, 1), 9999},
		{shares(1, 1, 1, 10000, 1, 1), 9999},
		{shares(1, 10000, 10000, 10000, 10000, 1), 9999},
		{shares(1, 9999, 9999, 10000, 9999, 9999), 1},
	} {
		wantSpread(t, x.s, x.want)
	}
	for win := 1; win <= mostWindow; win++ {
		wantSpread(t, shares(9, win), 0)
		wantSpread(t, shares(9, slices.Repeat([]int{win}, 1+win%5)...), 0)
	}
	for _, s := range append(sharesToTry(10), smallShares()...) {
		wantSpread(t, s, widestPair(s))
	}
}

func TestWindowsComeToBeAlike(t *testing.T) {
	nearer, alike := 0, 0
	for _, s := range append(sharesToTry(8), smallShares()...) {
		was := widestPair(s)
		if grown, ok := impl.GrowAll(s); ok {
			wantSpread(t, grown, was)
		}
		halved, ok := impl.HalveAll(s)
		now, fine := impl.SpreadOf(halved)
		if !ok || !fine || now > (was+1)/2 {
			t.Errorf("HalveAll %v: %v, spread as far as %d", s, halved, now)
		}
		run, _, ok := impl.RoundsOf(s, impl.MaxRounds)
		now, fine = impl.SpreadOf(run)
		if ok != fine || now > was {
			t.Errorf("%d rounds from %v: %v, spread as far as %d", impl.MaxRounds, s, run, now)
		}
		if fine && was > 1 && now < was {
			nearer++
			if now == 0 {
				alike++
			}
		}
	}
	if nearer < 1000 || alike < 100 {
		t.Error("too few that come nearer, or to be alike:", nearer, alike)
	}
}

func TestFairness(t *testing.T) {
	for _, x := range []struct {
		s            impl.Shares
		upper, lower int
	}{
		{shares(8, 1, 9), 100, 164},
		{shares(8, 9, 1), 100, 164},
		{shares(8, 1), 1, 1},
		{shares(8, 2), 4, 4},
		{shares(8, 10000), 100000000, 100000000},
		{shares(8, 1, 1), 4, 4},
		{shares(8, 7, 7, 7), 441, 441},
		{shares(8, 1, 2), 9, 10},
		{shares(8, 1, 2, 3), 36, 42},
		{shares(8, 1, 2, 3, 4, 5), 225, 275},
		{shares(8, 5, 4, 3, 2, 1), 225, 275},
		{shares(1, 1, 10000), 100020001, 200000002},
		{shares(1, 1, 1, 1, 1, 10000), 100080016, 500000020},
		{shares(40000, 10000, 10000, 10000, 10000, 10000), 2500000000, 2500000000},
		{shares(40000, 10000, 10000, 10000, 10000, 9999), 2499900001, 2499900005},
		{shares(40000, 10000, 10000, 10000, 10000, 1), 1600080001, 2000000005},
	} {
		wantFairness(t, x.s, x.upper, x.lower)
		// The Room does not count.
		wantFairness(t, shares(mostRoom, x.s.Wins...), x.upper, x.lower)
		wantFairness(t, shares(1, x.s.Wins...), x.upper, x.lower)
	}
	for win := 1; win <= mostWindow; win++ {
		wantFairness(t, shares(9, win), win*win, win*win)
		many := 1 + win%5
		wantFairness(t, shares(9, slices.Repeat([]int{win}, many)...), many*many*win*win, many*many*win*win)
	}
	for _, s := range append(sharesToTry(10), smallShares()...) {
		upper, lower := fairnessByPairs(s)
		wantFairness(t, s, upper, lower)
	}
}

func TestTheFairerOne(t *testing.T) {
	for _, x := range []struct {
		a, b impl.Shares
		// more is 1 where the first is fairer, -1 where the second is, 0 where none is.
		more int
	}{
		{shares(8, 2, 10), shares(8, 1, 9), 1},
		{shares(8, 1, 9), shares(8, 1, 4), -1},
		{shares(8, 5, 5), shares(8, 1, 9), 1},
		{shares(8, 5, 5), shares(8, 5, 6), 1},
		{shares(8, 5, 5), shares(8, 9, 9), 0},
		{shares(8, 1, 2), shares(8, 2, 4), 0},
		{shares(8, 1, 2), shares(8, 2, 1), 0},
		{shares(8, 1, 2), shares(8, 5000, 10000), 0},
		{shares(8, 1, 2), shares(8, 5000, 9999), -1},
		{shares(8, 1, 2), shares(8, 4999, 10000), 1},
		{shares(8, 1, 9), shares(1, 1, 9), 0},
		{shares(8, 1), shares(8, 1), 0},
		{shares(8, 1), shares(8, 10000), 0},
		{shares(8, 1, 2, 3), shares(8, 3, 2, 1), 0},
		{shares(8, 1, 2, 3), shares(8, 1, 3, 3), -1},
		// Halved ones may be less fair than they were.
		{shares(8, 4, 3), shares(8, 2, 1), 1},
		// So near to each other that only whole numbers tell them apart, and as great as they may be.
		{shares(8, 10000, 9999), shares(8, 9999, 9998), 1},
		{shares(8, 10000, 10000, 10000, 10000, 9999), shares(8, 9999, 9999, 9999, 9999, 9998), 1},
		{shares(8, 10000, 10000, 10000, 10000, 10000), shares(8, 10000, 10000, 10000, 10000, 9999), 1},
		{shares(8, 10000, 10000, 10000, 9999, 9999), shares(8, 10000, 10000, 10000, 10000, 9999), -1},
		{shares(8, 10000, 10000, 10000, 10000, 10000), shares(8, 1, 1, 1, 1, 1), 0},
		{shares(8, 10000, 1, 1, 1, 1), shares(8, 10000, 10000, 10000, 10000, 10000), -1},
		{shares(8, 10000, 1, 1, 1, 1), shares(8, 10000, 1, 1, 1, 2), -1},
	} {
		wantFairer(t, x.a, x.b, x.more == 1)
		wantFairer(t, x.b, x.a, x.more == -1)
		wantFairer(t, x.a, x.a, false)
		wantFairer(t, x.b, x.b, false)
	}
	var by [impl.MaxSenders + 1][]impl.Shares
	for _, s := range append(sharesToTry(4), smallShares()...) {
		by[len(s.Wins)] = append(by[len(s.Wins)], s)
	}
	fairer, alike := 0, 0
	for many, all := range by {
		next := shaker(many)
		for range 4000 {
			if len(all) == 0 {
				break
			}
			a, b := all[next(len(all))], all[next(len(all))]
			more := fractionOf(a).Cmp(fractionOf(b))
			wantFairer(t, a, b, more > 0)
			wantFairer(t, b, a, more < 0)
			if more != 0 {
				fairer++
			} else if many > 1 && !slices.Equal(a.Wins, b.Wins) {
				alike++
			}
		}
	}
	if fairer < 5000 || alike < 500 {
		t.Error("too few of a kind:", fairer, alike)
	}
}

// wantNoLessFair tells whether it was fairer than its argument.
func wantNoLessFair(t *testing.T, s impl.Shares) bool {
	t.Helper()
	grown, ok := impl.GrowAll(s)
	if !ok {
		return false
	}
	wantFairer(t, s, grown, false)
	unlike := slices.Min(s.Wins) < slices.Max(s.Wins)
	wantFairer(t, grown, s, unlike)
	p, q, fine := impl.FairnessOf(s)
	u, v, is := impl.FairnessOf(grown)
	if !fine || !is || u <= p || v <= q || big.NewRat(int64(u), int64(v)).Cmp(big.NewRat(int64(p), int64(q))) < 0 {
		t.Errorf("%v has grown to %v: %d of %d, before it %d of %d", s, grown, u, v, p, q)
	}
	// What is wanting to be all fair is as much as before.
	if v-u != q-p || (v == u) != !unlike {
		t.Errorf("%v has grown to %v: %d are wanting, before it %d", s, grown, v-u, q-p)
	}
	return unlike
}

func TestWindowsThatGrowByTheSameAreNoLessFair(t *testing.T) {
	fairer := 0
	for _, s := range append(sharesToTry(15), smallShares()...) {
		if wantNoLessFair(t, s) {
			fairer++
		}
	}
	for least := 1; least <= 40; least++ {
		for greatest := 1; greatest < mostWindow; greatest += 37 {
			wantNoLessFair(t, shares(1, least, greatest))
			wantNoLessFair(t, shares(1, greatest, least, greatest, 9999, least))
		}
	}
	for many := 1; many <= impl.MaxSenders; many++ {
		wantNoLessFair(t, shares(1, slices.Repeat([]int{1}, many)...))
		wantNoLessFair(t, shares(1, slices.Repeat([]int{mostWindow - 1}, many)...))
	}
	if fairer < 1000 {
		t.Error("too few that came to be fairer:", fairer)
	}
	// Over many rounds in which nothing is halved as well.
	for _, s := range sharesToTry(5) {
		s.Room = mostRoom
		for many := range impl.MaxRounds + 1 {
			if run, halves, ok := impl.RoundsOf(s, many); ok && halves == 0 {
				wantFairer(t, s, run, false)
				wantFairer(t, run, s, many > 0 && widestPair(s) > 0)
			}
		}
	}
}

func TestNoneAreFairerThanAlikeOnes(t *testing.T) {
	for _, s := range append(sharesToTry(10), smallShares()...) {
		for _, win := range []int{1, 2, s.Wins[0], 4999, mostWindow} {
			alike := shares(s.Room, slices.Repeat([]int{win}, len(s.Wins))...)
			wantFairer(t, s, alike, false)
			wantFairer(t, alike, s, slices.Min(s.Wins) < slices.Max(s.Wins))
		}
		if p, q, ok := impl.FairnessOf(s); !ok || p > q || p < 1 || p*len(s.Wins) < q {
			t.Errorf("FairnessOf %v: %d of %d, %t", s, p, q, ok)
		}
	}
}

// wrongShares have a wrong window, a wrong Room or not as many windows as may be, with what else is good and with what is not.
func wrongShares() []impl.Shares {
	far := []int{0, -1, -2, -10000, -40000, 40001, 40002, math.MinInt, math.MinInt + 1, math.MinInt / 2, math.MaxInt / 2, math.MaxInt, math.MaxInt - 1}
	var all []impl.Shares
	for many := 1; many <= impl.MaxSenders; many++ {
		for _, other := range []int{1, 9, mostWindow} {
			for _, n := range append(far, 10001, 10002, 20000, 40000) {
				for at := range many {
					s := shares(8, slices.Repeat([]int{other}, many)...)
					s.Wins[at] = n
					all = append(all, s)
				}
				all = append(all, shares(mostRoom, slices.Repeat([]int{n}, many)...))
			}
			for _, n := range far {
				all = append(all, shares(n, slices.Repeat([]int{other}, many)...), shares(n, slices.Repeat([]int{n}, many)...))
			}
		}
	}
	for _, many := range []int{impl.MaxSenders + 1, impl.MaxSenders + 2, 10, 1000} {
		for _, win := range []int{1, 9, mostWindow, 0, math.MinInt, math.MaxInt} {
			all = append(all, shares(8, slices.Repeat([]int{win}, many)...), shares(mostRoom, slices.Repeat([]int{win}, many)...))
		}
	}
	for _, room := range append(far, 1, 8, mostRoom) {
		all = append(all, impl.Shares{Room: room}, impl.Shares{Wins: []int{}, Room: room}, impl.Shares{Wins: withHidden[int](nil, 5), Room: room})
	}
	return all
}

func TestWrongSharesAreRefused(t *testing.T) {
	good := []impl.Shares{shares(8, 1), shares(8, 1, 9), shares(8, 1, 9, 1), shares(8, 1, 9, 1, 9), shares(8, 1, 9, 1, 9, 1)}
	all := wrongShares()
	for k, s := range all {
		if impl.GoodShares(s) {
			t.Errorf("%v is good", s)
		}
		got, ok := impl.GrowAll(s)
		wantNoShares(t, fmt.Sprint("GrowAll ", s), got, ok)
		got, ok = impl.HalveAll(s)
		wantNoShares(t, fmt.Sprint("HalveAll ", s), got, ok)
		wantNoRound(t, s)
		for _, many := range []int{0, 1, 2, impl.MaxRounds, -1, impl.MaxRounds + 1, math.MinInt, math.MaxInt} {
			wantNoRounds(t, s, many)
		}
		if n, ok := impl.SpreadOf(s); n != 0 || ok {
			t.Errorf("SpreadOf %v: %d, %t", s, n, ok)
		}
		if p, q, ok := impl.FairnessOf(s); p != 0 || q != 0 || ok {
			t.Errorf("FairnessOf %v: %d, %d, %t", s, p, q, ok)
		}
		wantNotComparable(t, s, s)
		wantNotComparable(t, s, all[(k+1)%len(all)])
		for _, x := range good {
			wantNotComparable(t, s, x)
			wantNotComparable(t, x, s)
		}
	}
}

func TestWindowsThatWouldGrowTooGreatAreRefused(t *testing.T) {
	for many := 1; many <= impl.MaxSenders; many++ {
		for at := range many {
			for _, other := range []int{1, 9, 7500, mostWindow} {
				s := shares(mostRoom, slices.Repeat([]int{other}, many)...)
				s.Wins[at] = mostWindow
				got, ok := impl.GrowAll(s)
				wantNoShares(t, fmt.Sprint("GrowAll ", s), got, ok)
				if roomLeft(s) < 0 {
					continue
				}
				wantNoRound(t, s)
				wantRounds(t, s, 0, s, 0)
				for _, often := range []int{1, 2, impl.MaxRounds} {
					wantNoRounds(t, s, often)
				}
				// As little Room as they have together is enough to be refused, with less they are halved.
				s.Room -= roomLeft(s)
				wantNoRound(t, s)
				if s.Room > 1 {
					s.Room--
					wantRound(t, s, halfAsMuch(s), true)
				}
			}
		}
	}
}

func TestWrongNumbersOfRoundsAreRefused(t *testing.T) {
	for _, s := range append(sharesToTry(1), smallShares()...) {
		for _, many := range []int{-1, -2, -40, 41, 42, 80, 1000, math.MinInt, math.MinInt + 1, math.MaxInt, math.MaxInt - 1} {
			wantNoRounds(t, s, many)
		}
	}
}

func TestUnlikeManyWindowsAreNotCompared(t *testing.T) {
	for many := range impl.MaxSenders + 1 {
		for other := range impl.MaxSenders + 1 {
			for _, win := range []int{1, 7, mostWindow} {
				a := shares(8, slices.Repeat([]int{win}, many)...)
				b := shares(8, slices.Repeat([]int{9}, other)...)
				if many == other && many > 0 {
					wantFairer(t, a, b, false)
				} else {
					wantNotComparable(t, a, b)
				}
			}
		}
	}
	wantNotComparable(t, shares(8, 5, 5), shares(8, 1, 9, 1))
	wantNotComparable(t, shares(8, 1, 9, 1), shares(8, 5, 5))
}

// wantSharesAs holds answers with something behind the windows' length against those without.
func wantSharesAs(t *testing.T, what string, got impl.Shares, ok bool, plain impl.Shares, same bool) {
	t.Helper()
	if ok != same || !sameShares(got, plain) {
		t.Errorf("%s: %v, %t, and %v, %t", what, got, ok, plain, same)
	}
	wrecked(t, what, got.Wins, hiddenNumber)
}

func TestSharesAreNotWrittenInto(t *testing.T) {
	all := append(append(sharesToTry(3), smallShares()...), wrongShares()...)
	for k, x := range all {
		were := slices.Clone(x.Wins)
		given, plain := shares(x.Room, withHidden(x.Wins, hiddenNumber)...), shares(x.Room, slices.Clip(slices.Clone(x.Wins))...)
		untouched := func(what string) {
			t.Helper()
			wantUnchanged(t, what, given.Wins, were, hiddenNumber)
			if given.Room != x.Room {
				t.Errorf("%s: the Room of %v has become %d", what, x, given.Room)
			}
		}
		if impl.GoodShares(given) != impl.GoodShares(plain) {
			t.Errorf("GoodShares of %v hangs on what lies behind its windows", x)
		}
		untouched("GoodShares")
		got, ok := impl.GrowAll(given)
		want, same := impl.GrowAll(plain)
		wantSharesAs(t, "GrowAll", got, ok, want, same)
		untouched("GrowAll")
		got, ok = impl.HalveAll(given)
		want, same = impl.HalveAll(plain)
		wantSharesAs(t, "HalveAll", got, ok, want, same)
		untouched("HalveAll")
		got, half, ok := impl.RoundOf(given)
		want, halved, same := impl.RoundOf(plain)
		wantSharesAs(t, "RoundOf", got, ok, want, same)
		if half != halved {
			t.Errorf("RoundOf %v hangs on what lies behind its windows", x)
		}
		untouched("RoundOf")
		for _, many := range []int{0, 1, 2, 7, impl.MaxRounds, -1, impl.MaxRounds + 1} {
			got, count, ok := impl.RoundsOf(given, many)
			want, halves, same := impl.RoundsOf(plain, many)
			wantSharesAs(t, fmt.Sprint("RoundsOf ", many), got, ok, want, same)
			if count != halves {
				t.Errorf("RoundsOf %v hangs on what lies behind its windows", x)
			}
			untouched("RoundsOf")
		}
		n, ok := impl.SpreadOf(given)
		if m, same := impl.SpreadOf(plain); n != m || ok != same {
			t.Errorf("SpreadOf %v hangs on what lies behind its windows", x)
		}
		p, q, ok := impl.FairnessOf(given)
		if u, v, same := impl.FairnessOf(plain); p != u || q != v || ok != same {
			t.Errorf("FairnessOf %v hangs on what lies behind its windows", x)
		}
		for _, other := range []impl.Shares{given, all[(k+1)%len(all)]} {
			impl.IsFairer(given, other)
			impl.IsFairer(other, given)
		}
		untouched("the asking ones")
		if !sameShares(plain, shares(x.Room, were...)) {
			t.Errorf("%v has become %v", x, plain)
		}
	}
}

func TestWindowsBehindAListAreNotRead(t *testing.T) {
	// Good ones lie behind what is one too few, or too many would be had with them.
	piece := []int{1, 9, 5, 10000, 3, 7, 10000}
	for many := range impl.MaxSenders + 1 {
		s := impl.Shares{Wins: piece[:many], Room: 8}
		if impl.GoodShares(s) != (many > 0) {
			t.Errorf("the first %d of %v: %t whether they are good", many, piece, many == 0)
		}
		if many == 0 {
			continue
		}
		wantSpread(t, s, slices.Max(piece[:many])-slices.Min(piece[:many]))
		upper, lower := fairnessByPairs(s)
		wantFairness(t, s, upper, lower)
		wantFairer(t, s, shares(1, slices.Clone(piece[:many])...), false)
	}
	if !slices.Equal(piece, []int{1, 9, 5, 10000, 3, 7, 10000}) {
		t.Error("they have become", piece)
	}
}

func TestAnswersOfSharesAreApart(t *testing.T) {
	for _, x := range append(sharesToTry(2), smallShares()...) {
		s := shares(x.Room, slices.Clone(x.Wins)...)
		lists := [][]int{s.Wins}
		add := func(next impl.Shares) {
			lists = append(lists, next.Wins[:cap(next.Wins)])
		}
		for range 2 {
			grown, _ := impl.GrowAll(s)
			add(grown)
			halved, _ := impl.HalveAll(s)
			add(halved)
			next, _, _ := impl.RoundOf(s)
			add(next)
			for _, many := range []int{0, 0, 1, 3, impl.MaxRounds} {
				run, _, _ := impl.RoundsOf(s, many)
				add(run)
			}
		}
		wantApart(t, fmt.Sprint("of ", x), lists)
	}
}

func TestSharesHangOnWhatIsGivenAlone(t *testing.T) {
	s := shares(8, 1, 9)
	for range 3 {
		wantRound(t, s, shares(8, 1, 4), true)
		wantRounds(t, s, 2, shares(8, 2, 5), 1)
		wantNoRounds(t, s, 41)
		wantNoRound(t, shares(0, 1, 9))
		wantSpread(t, s, 8)
		wantFairness(t, s, 100, 164)
		grown, ok := impl.GrowAll(s)
		wantShares(t, "GrowAll once more", grown, ok, shares(8, 2, 10))
		wantFairer(t, grown, s, true)
	}
}
