package tests

import (
	"math"
	"slices"
	"testing"

	"loop.example/g00527/impl"
)

// width is how many numbers the sets of these tests may have: few enough to hold each two sets against each other.
const width = 7

// bases are where the numbers of the sets begin: at the least and at the greatest that spans may have.
var bases = []int{0, 500, impl.MaxEnd - width}

var counterparts = [14]int{0, 8, 9, 3, 10, 11, 12, 13, 1, 2, 4, 5, 6, 7}

func span(from, to int) impl.Span {
	return impl.Span{From: from, To: to}
}

// runsOf gives the set's numbers, bit k for base + k, in as few spans as can be.
func runsOf(set, base int) []impl.Span {
	var l []impl.Span
	for k := range width {
		if set>>k&1 == 0 {
			continue
		}
		if k > 0 && set>>(k-1)&1 == 1 {
			l[len(l)-1].To++
		} else {
			l = append(l, span(base+k, base+k+1))
		}
	}
	return l
}

func setOf(x impl.Span, base int) int {
	set := 0
	for k := range width {
		if x.From <= base+k && base+k < x.To {
			set |= 1 << k
		}
	}
	return set
}

func countIn(set int) int {
	many := 0
	for k := range width {
		many += set >> k & 1
	}
	return many
}

func spansIn(base int) []impl.Span {
	var l []impl.Span
	for from := range width {
		for to := from + 1; to <= width; to++ {
			l = append(l, span(base+from, base+to))
		}
	}
	return l
}

// rowOf gives many spans of long numbers each, with each beginning step behind the one ahead.
func rowOf(many, from, long, step int) []impl.Span {
	var l []impl.Span
	for k := range many {
		l = append(l, span(from+k*step, from+k*step+long))
	}
	return l
}

func wantSpans(t *testing.T, what string, got []impl.Span, ok bool, want []impl.Span) {
	t.Helper()
	if !ok || !slices.Equal(got, want) {
		t.Errorf("%s: %v, %t, not %v", what, got, ok, want)
	}
}

func wantNoSpans(t *testing.T, what string, got []impl.Span, ok bool) {
	t.Helper()
	if ok || len(got) != 0 {
		t.Errorf("%s: %v, %t", what, got, ok)
	}
}

func TestLimitsOfSpans(t *testing.T) {
	if impl.MaxSpans != 20 || impl.MaxEnd != 1000000 {
		t.Error(impl.MaxSpans, impl.MaxEnd)
	}
}

func TestJoinAndMeetNumberByNumber(t *testing.T) {
	for _, base := range bases {
		for a := range 1 << width {
			for b := range 1 << width {
				la, lb := runsOf(a, base), runsOf(b, base)
				either, ok := impl.JoinSpans(la, lb)
				wantSpans(t, "JoinSpans", either, ok, runsOf(a|b, base))
				both, ok := impl.MeetSpans(la, lb)
				wantSpans(t, "MeetSpans", both, ok, runsOf(a&b, base))
				n, _ := impl.LengthOf(either)
				m, _ := impl.LengthOf(both)
				if n+m != countIn(a)+countIn(b) {
					t.Errorf("%v and %v: %d in either, %d in both", la, lb, n, m)
				}
			}
		}
	}
}

func TestAddAndCutNumberByNumber(t *testing.T) {
	for _, base := range bases {
		for set := range 1 << width {
			for _, x := range spansIn(base) {
				l, with := runsOf(set, base), setOf(x, base)
				added, fresh, ok := impl.AddSpan(l, x)
				wantSpans(t, "AddSpan", added, ok, runsOf(set|with, base))
				if fresh != countIn(with&^set) {
					t.Errorf("AddSpan(%v, %v): %d new", l, x, fresh)
				}
				cut, ok := impl.CutSpan(l, x)
				wantSpans(t, "CutSpan", cut, ok, runsOf(set&^with, base))
			}
		}
	}
}

func TestMissingNumberByNumber(t *testing.T) {
	for set := range 1 << width {
		for upto := range width + 1 {
			l := runsOf(set, 0)
			got, ok := impl.MissingIn(l, upto)
			wantSpans(t, "MissingIn", got, ok, runsOf((1<<upto-1)&^set, 0))
		}
	}
}

func TestMissingAtPlaces(t *testing.T) {
	l := []impl.Span{span(3, 5), span(8, 12), span(20, 30)}
	for _, c := range []struct {
		upto int
		want []impl.Span
	}{
		{0, nil},
		{1, []impl.Span{span(0, 1)}},
		{3, []impl.Span{span(0, 3)}},
		{4, []impl.Span{span(0, 3)}},
		{5, []impl.Span{span(0, 3)}},
		{6, []impl.Span{span(0, 3), span(5, 6)}},
		{8, []impl.Span{span(0, 3), span(5, 8)}},
		{10, []impl.Span{span(0, 3), span(5, 8)}},
		{12, []impl.Span{span(0, 3), span(5, 8)}},
		{13, []impl.Span{span(0, 3), span(5, 8), span(12, 13)}},
		{30, []impl.Span{span(0, 3), span(5, 8), span(12, 20)}},
		{31, []impl.Span{span(0, 3), span(5, 8), span(12, 20), span(30, 31)}},
		{impl.MaxEnd, []impl.Span{span(0, 3), span(5, 8), span(12, 20), span(30, impl.MaxEnd)}},
	} {
		got, ok := impl.MissingIn(l, c.upto)
		wantSpans(t, "MissingIn", got, ok, c.want)
		for n := range min(c.upto, 40) {
			has, _ := impl.HasPoint(l, n)
			lacks, told := impl.HasPoint(got, n)
			if !told || has == lacks {
				t.Errorf("upto %d: %d is in spans: %t, missing: %t", c.upto, n, has, lacks)
			}
		}
	}
	whole := []impl.Span{span(0, impl.MaxEnd)}
	got, ok := impl.MissingIn(whole, impl.MaxEnd)
	wantSpans(t, "MissingIn all", got, ok, nil)
	got, ok = impl.MissingIn(nil, impl.MaxEnd)
	wantSpans(t, "MissingIn none", got, ok, whole)
	got, ok = impl.MissingIn([]impl.Span{span(1, impl.MaxEnd-1)}, impl.MaxEnd)
	wantSpans(t, "MissingIn but the ends", got, ok, []impl.Span{span(0, 1), span(impl.MaxEnd-1, impl.MaxEnd)})
}

func TestSpansThatTouchAreOne(t *testing.T) {
	l := []impl.Span{span(0, 2), span(4, 6), span(9, 10)}
	for _, c := range []struct {
		x     impl.Span
		want  []impl.Span
		fresh int
	}{
		{span(2, 4), []impl.Span{span(0, 6), span(9, 10)}, 2},
		{span(2, 3), []impl.Span{span(0, 3), span(4, 6), span(9, 10)}, 1},
		{span(3, 4), []impl.Span{span(0, 2), span(3, 6), span(9, 10)}, 1},
		{span(6, 9), []impl.Span{span(0, 2), span(4, 10)}, 3},
		{span(7, 8), []impl.Span{span(0, 2), span(4, 6), span(7, 8), span(9, 10)}, 1},
		{span(1, 20), []impl.Span{span(0, 20)}, 15},
		{span(4, 6), l, 0},
		{span(5, 6), l, 0},
		{span(11, 12), append(slices.Clone(l), span(11, 12)), 1},
		{span(0, impl.MaxEnd), []impl.Span{span(0, impl.MaxEnd)}, impl.MaxEnd - 5},
	} {
		got, fresh, ok := impl.AddSpan(l, c.x)
		wantSpans(t, "AddSpan", got, ok, c.want)
		if fresh != c.fresh {
			t.Errorf("AddSpan(%v): %d new, not %d", c.x, fresh, c.fresh)
		}
		got, ok = impl.JoinSpans(l, []impl.Span{c.x})
		wantSpans(t, "JoinSpans", got, ok, c.want)
		got, ok = impl.JoinSpans([]impl.Span{c.x}, l)
		wantSpans(t, "JoinSpans", got, ok, c.want)
	}
}

func TestLengthAndPoints(t *testing.T) {
	for set := range 1 << width {
		for _, base := range bases {
			l := runsOf(set, base)
			if n, ok := impl.LengthOf(l); n != countIn(set) || !ok {
				t.Errorf("LengthOf(%v): %d, %t", l, n, ok)
			}
			for k := -2; k < width+2; k++ {
				want := k >= 0 && set>>k&1 == 1
				if has, ok := impl.HasPoint(l, base+k); has != want || !ok {
					t.Errorf("HasPoint(%v, %d): %t, %t", l, base+k, has, ok)
				}
			}
		}
	}
	whole := []impl.Span{span(0, impl.MaxEnd)}
	if n, ok := impl.LengthOf(whole); n != impl.MaxEnd || !ok {
		t.Error(n, ok)
	}
	for _, n := range []int{-1, math.MinInt, impl.MaxEnd, math.MaxInt} {
		if has, ok := impl.HasPoint(whole, n); has || !ok {
			t.Errorf("HasPoint of all, %d: %t, %t", n, has, ok)
		}
	}
}

// holds tells each of the first seven ways by the words of the document, so that just one of thirteen can be counted.
func holds(way int, a, b impl.Span) bool {
	switch way {
	case 1:
		return a.To < b.From
	case 2:
		return a.To == b.From
	case 3:
		return a == b
	case 4:
		return a.From == b.From && a.To < b.To
	case 5:
		return a.To == b.To && b.From < a.From
	case 6:
		return b.From < a.From && a.To < b.To
	case 7:
		return a.From < b.From && b.From < a.To && a.To < b.To
	}
	return holds(counterparts[way], b, a)
}

func TestJustOneOfThirteenWays(t *testing.T) {
	var seen [14]int
	for _, base := range bases {
		for _, a := range spansIn(base) {
			for _, b := range spansIn(base) {
				way, ok := impl.RelationOf(a, b)
				back, told := impl.RelationOf(b, a)
				if !ok || !told || way < 1 || way > 13 || back != counterparts[way] {
					t.Fatalf("RelationOf(%v, %v): %d, %t; the other way round %d, %t", a, b, way, ok, back, told)
				}
				seen[way]++
				for other := 1; other <= 13; other++ {
					if holds(other, a, b) != (other == way) {
						t.Errorf("RelationOf(%v, %v): %d, but %d", a, b, way, other)
					}
				}
			}
		}
	}
	for way := 1; way <= 13; way++ {
		if seen[way] == 0 {
			t.Errorf("no two spans stand in way %d", way)
		}
	}
}

func TestEachWayAtItsNumber(t *testing.T) {
	b := span(10, 20)
	for way, a := range map[int]impl.Span{
		1: span(0, 9), 2: span(0, 10), 3: span(10, 20), 4: span(10, 19), 5: span(11, 20), 6: span(11, 19), 7: span(9, 11),
		8: span(21, 30), 9: span(20, 30), 10: span(10, 21), 11: span(9, 20), 12: span(9, 21), 13: span(19, 21),
	} {
		if got, ok := impl.RelationOf(a, b); got != way || !ok {
			t.Errorf("RelationOf(%v, %v): %d, %t, not %d", a, b, got, ok, way)
		}
	}
	for _, c := range []struct {
		a, b impl.Span
		way  int
	}{
		{span(0, 1), span(impl.MaxEnd-1, impl.MaxEnd), 1},
		{span(0, 1), span(1, impl.MaxEnd), 2},
		{span(0, impl.MaxEnd), span(0, impl.MaxEnd), 3},
		{span(0, 1), span(0, impl.MaxEnd), 4},
		{span(impl.MaxEnd-1, impl.MaxEnd), span(0, impl.MaxEnd), 5},
	} {
		if got, ok := impl.RelationOf(c.a, c.b); got != c.way || !ok {
			t.Errorf("RelationOf(%v, %v): %d, %t, not %d", c.a, c.b, got, ok, c.way)
		}
	}
}

func TestListsOfJustMaxSpansAreGood(t *testing.T) {
	full := rowOf(impl.MaxSpans, 0, 3, 5)
	if !impl.GoodSpans(full) || !impl.GoodSpans(nil) || !impl.GoodSpans([]impl.Span{}) {
		t.Error("good spans are refused")
	}
	got, fresh, ok := impl.AddSpan(full[1:], full[0])
	wantSpans(t, "AddSpan", got, ok, full)
	if fresh != 3 {
		t.Error(fresh)
	}
	got, ok = impl.JoinSpans(full, full)
	wantSpans(t, "JoinSpans", got, ok, full)
	got, ok = impl.MeetSpans(full, full)
	wantSpans(t, "MeetSpans", got, ok, full)
	got, ok = impl.CutSpan(full, span(3, 5))
	wantSpans(t, "CutSpan", got, ok, full)
	got, ok = impl.CutSpan(full[1:], span(6, 7))
	wantSpans(t, "CutSpan", got, ok, append([]impl.Span{span(5, 6), span(7, 8)}, full[2:]...))
	got, ok = impl.MissingIn(full, impl.MaxEnd)
	gaps := append(rowOf(impl.MaxSpans-1, 3, 2, 5), span(98, impl.MaxEnd))
	wantSpans(t, "MissingIn", got, ok, gaps)
	got, ok = impl.MissingIn(gaps, impl.MaxEnd)
	wantSpans(t, "MissingIn what is missing", got, ok, full)
	if n, ok := impl.LengthOf(full); n != 3*impl.MaxSpans || !ok {
		t.Error(n, ok)
	}
	if has, ok := impl.HasPoint(full, 97); !has || !ok {
		t.Error(has, ok)
	}
}

func TestAnswersOfTooManySpans(t *testing.T) {
	full := rowOf(impl.MaxSpans, 1, 3, 5)
	got, fresh, ok := impl.AddSpan(full, span(500, 501))
	wantNoSpans(t, "AddSpan", got, ok)
	if fresh != 0 {
		t.Error(fresh)
	}
	got, ok = impl.JoinSpans(full, []impl.Span{span(500, 501)})
	wantNoSpans(t, "JoinSpans", got, ok)
	got, ok = impl.JoinSpans(full, rowOf(impl.MaxSpans, 300, 1, 2))
	wantNoSpans(t, "JoinSpans", got, ok)
	got, ok = impl.MeetSpans(full, []impl.Span{span(0, 2), span(3, 200)})
	wantNoSpans(t, "MeetSpans", got, ok)
	got, ok = impl.MeetSpans(full, rowOf(impl.MaxSpans, 3, 4, 5))
	wantNoSpans(t, "MeetSpans", got, ok)
	got, ok = impl.CutSpan(full, span(2, 3))
	wantNoSpans(t, "CutSpan", got, ok)
	got, ok = impl.CutSpan(full, span(97, 98))
	wantNoSpans(t, "CutSpan", got, ok)
	got, ok = impl.MissingIn(full, 100)
	wantNoSpans(t, "MissingIn", got, ok)
	got, ok = impl.MissingIn(full, impl.MaxEnd)
	wantNoSpans(t, "MissingIn", got, ok)
	got, ok = impl.MissingIn(full, 99)
	if !ok || len(got) != impl.MaxSpans {
		t.Error(got, ok)
	}
}

func TestOnlyTheEndIsCounted(t *testing.T) {
	full := rowOf(impl.MaxSpans, 0, 5, 10)
	got, ok := impl.JoinSpans(full, []impl.Span{span(6, 7), span(12, 300)})
	wantSpans(t, "JoinSpans", got, ok, []impl.Span{span(0, 5), span(6, 7), span(10, 300)})
	got, ok = impl.MeetSpans(full, []impl.Span{span(0, 1), span(3, 4)})
	wantSpans(t, "MeetSpans", got, ok, []impl.Span{span(0, 1), span(3, 4)})
	got, ok = impl.MeetSpans([]impl.Span{span(0, 1), span(3, 4)}, full)
	wantSpans(t, "MeetSpans", got, ok, []impl.Span{span(0, 1), span(3, 4)})
}

var wrongSpans = []impl.Span{
	span(-1, 1), span(-5, -2), span(math.MinInt, 1), span(math.MinInt, math.MaxInt), span(math.MinInt, math.MinInt),
	span(0, impl.MaxEnd+1), span(impl.MaxEnd, impl.MaxEnd+1), span(0, math.MaxInt), span(math.MaxInt-1, math.MaxInt),
	span(0, 0), span(5, 5), span(impl.MaxEnd, impl.MaxEnd), span(3, 2), span(1, 0), span(impl.MaxEnd, 0),
	span(math.MaxInt, math.MinInt), span(math.MaxInt, math.MaxInt),
}

func wrongLists() [][]impl.Span {
	l := [][]impl.Span{
		{span(0, 2), span(2, 4)},
		{span(0, 2), span(1, 4)},
		{span(0, 2), span(0, 2)},
		{span(0, 9), span(2, 4)},
		{span(5, 6), span(2, 4)},
		{span(1, 2), span(5, 6), span(3, 4)},
		{span(1, 2), span(3, 6), span(6, 7)},
		rowOf(impl.MaxSpans+1, 0, 1, 2),
		rowOf(impl.MaxSpans+100, 0, 1, 2),
	}
	for _, x := range wrongSpans {
		l = append(l, []impl.Span{x}, []impl.Span{x, span(100, 200)}, []impl.Span{span(100, 200), x})
	}
	return l
}

func TestWrongLists(t *testing.T) {
	good := []impl.Span{span(7, 8)}
	for _, l := range wrongLists() {
		if impl.GoodSpans(l) {
			t.Errorf("GoodSpans(%v)", l)
		}
		for _, x := range []impl.Span{span(7, 8), span(0, impl.MaxEnd)} {
			got, fresh, ok := impl.AddSpan(l, x)
			wantNoSpans(t, "AddSpan", got, ok)
			if fresh != 0 {
				t.Errorf("AddSpan(%v): %d new", l, fresh)
			}
			got, ok = impl.CutSpan(l, x)
			wantNoSpans(t, "CutSpan", got, ok)
		}
		for _, upto := range []int{0, 1, 50, impl.MaxEnd} {
			got, ok := impl.MissingIn(l, upto)
			wantNoSpans(t, "MissingIn", got, ok)
		}
		for _, b := range [][]impl.Span{nil, good, {span(0, impl.MaxEnd)}} {
			got, ok := impl.JoinSpans(l, b)
			wantNoSpans(t, "JoinSpans", got, ok)
			got, ok = impl.JoinSpans(b, l)
			wantNoSpans(t, "JoinSpans", got, ok)
			got, ok = impl.MeetSpans(l, b)
			wantNoSpans(t, "MeetSpans", got, ok)
			got, ok = impl.MeetSpans(b, l)
			wantNoSpans(t, "MeetSpans", got, ok)
		}
		if n, ok := impl.LengthOf(l); n != 0 || ok {
			t.Errorf("LengthOf(%v): %d, %t", l, n, ok)
		}
		for _, n := range []int{-1, 0, 1, 3, 5, 100, impl.MaxEnd, math.MinInt, math.MaxInt} {
			if has, ok := impl.HasPoint(l, n); has || ok {
				t.Errorf("HasPoint(%v, %d): %t, %t", l, n, has, ok)
			}
		}
	}
}

func TestWrongSpansAndPlaces(t *testing.T) {
	good := []impl.Span{span(7, 8), span(100, 200)}
	for _, x := range wrongSpans {
		for _, l := range [][]impl.Span{nil, good, {span(0, impl.MaxEnd)}} {
			got, fresh, ok := impl.AddSpan(l, x)
			wantNoSpans(t, "AddSpan", got, ok)
			if fresh != 0 {
				t.Errorf("AddSpan(%v, %v): %d new", l, x, fresh)
			}
			got, ok = impl.CutSpan(l, x)
			wantNoSpans(t, "CutSpan", got, ok)
		}
		for _, y := range append(slices.Clone(wrongSpans), good...) {
			if way, ok := impl.RelationOf(x, y); way != 0 || ok {
				t.Errorf("RelationOf(%v, %v): %d, %t", x, y, way, ok)
			}
			if way, ok := impl.RelationOf(y, x); way != 0 || ok {
				t.Errorf("RelationOf(%v, %v): %d, %t", y, x, way, ok)
			}
		}
	}
	for _, upto := range []int{-1, math.MinInt, impl.MaxEnd + 1, math.MaxInt} {
		for _, l := range [][]impl.Span{nil, good} {
			got, ok := impl.MissingIn(l, upto)
			wantNoSpans(t, "MissingIn", got, ok)
		}
	}
}

// secret stands behind the lists' lengths: it may come to light in no answer.
var secret = span(777777, 777778)

func withRoom(l []impl.Span) []impl.Span {
	all := append(make([]impl.Span, 0, len(l)+50), l...)
	for k := len(l); k < cap(all); k++ {
		all[:cap(all)][k] = secret
	}
	return all
}

// wantUntouched writes all over the answer, as far as its memory goes, and looks whether the arguments stand as they were.
func wantUntouched(t *testing.T, what string, answer []impl.Span, given, were []impl.Span) {
	t.Helper()
	whole := answer[:cap(answer)]
	if slices.Contains(whole, secret) {
		t.Errorf("%s: the answer has what lies behind a list's length", what)
	}
	for k := range whole {
		whole[k] = span(-9, -9)
	}
	if !slices.Equal(given, were) {
		t.Errorf("%s: %v is now %v", what, were, given)
	}
	for _, x := range given[len(given):cap(given)] {
		if x != secret {
			t.Errorf("%s: what lies behind %v has changed", what, were)
			return
		}
	}
}

func TestSpansAreNotWrittenInto(t *testing.T) {
	lists := [][]impl.Span{
		{}, {span(0, impl.MaxEnd)}, {span(5, 6)}, {span(0, 2), span(4, 6), span(9, 12)},
		{span(0, 2), span(3, 4), span(6, 7), span(10, 11)}, rowOf(impl.MaxSpans, 0, 3, 5), rowOf(impl.MaxSpans-1, 2, 3, 5),
		{span(5, 2)}, rowOf(impl.MaxSpans+1, 0, 3, 5),
	}
	var some []impl.Span
	for from := range 13 {
		for to := from + 1; to <= 14; to++ {
			some = append(some, span(from, to))
		}
	}
	some = append(some, span(200, 300), span(0, impl.MaxEnd), span(96, 97), span(7, 3))
	for _, were := range lists {
		l := withRoom(were)
		for _, x := range some {
			added, _, _ := impl.AddSpan(l, x)
			wantUntouched(t, "AddSpan", added, l, were)
			cut, _ := impl.CutSpan(l, x)
			wantUntouched(t, "CutSpan", cut, l, were)
		}
		for _, upto := range []int{0, 1, 5, 12, 50, impl.MaxEnd} {
			gaps, _ := impl.MissingIn(l, upto)
			wantUntouched(t, "MissingIn", gaps, l, were)
		}
		for _, others := range lists {
			b := withRoom(others)
			either, _ := impl.JoinSpans(l, b)
			wantUntouched(t, "JoinSpans", either, l, were)
			wantUntouched(t, "JoinSpans", either, b, others)
			both, _ := impl.MeetSpans(l, b)
			wantUntouched(t, "MeetSpans", both, l, were)
			wantUntouched(t, "MeetSpans", both, b, others)
		}
		either, _ := impl.JoinSpans(l, l)
		wantUntouched(t, "JoinSpans with itself", either, l, were)
		both, _ := impl.MeetSpans(l, l)
		wantUntouched(t, "MeetSpans with itself", both, l, were)
		impl.GoodSpans(l)
		impl.LengthOf(l)
		impl.HasPoint(l, 5)
		wantUntouched(t, "the asking ones", nil, l, were)
	}
}

func TestNilAndEmptyListsAreTheSame(t *testing.T) {
	empty := withRoom(nil)
	x := span(3, 9)
	for _, l := range [][]impl.Span{nil, {}, empty} {
		if !impl.GoodSpans(l) {
			t.Error("the empty list is refused")
		}
		added, fresh, ok := impl.AddSpan(l, x)
		wantSpans(t, "AddSpan", added, ok, []impl.Span{x})
		if fresh != 6 {
			t.Error(fresh)
		}
		cut, ok := impl.CutSpan(l, x)
		wantSpans(t, "CutSpan", cut, ok, nil)
		for _, b := range [][]impl.Span{nil, {}, empty} {
			either, ok := impl.JoinSpans(l, b)
			wantSpans(t, "JoinSpans", either, ok, nil)
			both, ok := impl.MeetSpans(l, b)
			wantSpans(t, "MeetSpans", both, ok, nil)
		}
		if n, ok := impl.LengthOf(l); n != 0 || !ok {
			t.Error(n, ok)
		}
		if has, ok := impl.HasPoint(l, 0); has || !ok {
			t.Error(has, ok)
		}
	}
}
