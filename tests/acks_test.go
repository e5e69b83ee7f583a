package tests

import (
	"math"
	"slices"
	"strings"
	"testing"

	"loop.example/g00527/impl"
)

// A sender is written as a byte a letter: h heard of, l lost, o open.
const (
	isHeard = 'h'
	isLost  = 'l'
	isOpen  = 'o'
)

func runsIn(marks string, of byte) []impl.Span {
	var l []impl.Span
	for n := range len(marks) {
		if marks[n] != of {
			continue
		}
		if n > 0 && marks[n-1] == of {
			l[len(l)-1].To++
		} else {
			l = append(l, span(n, n+1))
		}
	}
	return l
}

func placesIn(marks string, of byte) []int {
	var l []int
	for n := range len(marks) {
		if marks[n] == of {
			l = append(l, n)
		}
	}
	return l
}

func standing(marks string) impl.Sender {
	return impl.Sender{Next: len(marks), Heard: runsIn(marks, isHeard), Lost: placesIn(marks, isLost)}
}

func sameSender(a, b impl.Sender) bool {
	return a.Next == b.Next && slices.Equal(a.Heard, b.Heard) && slices.Equal(a.Lost, b.Lost)
}

func isNoSender(s impl.Sender) bool {
	return sameSender(s, impl.Sender{})
}

// fromBelow gives the numbers from one up to less than the other.
func fromBelow(from, below int) []int {
	var l []int
	for n := from; n < below; n++ {
		l = append(l, n)
	}
	return l
}

func everyOther(many, from int) []int {
	var l []int
	for k := range many {
		l = append(l, from+2*k)
	}
	return l
}

func turnedRound(l []int) []int {
	l = slices.Clone(l)
	slices.Reverse(l)
	return l
}

// The ones from here on are written apart from the program, to be held against it.

// hearing marks letter by letter, from the greatest down, and tells which it marked for the first time.
func hearing(marks string, l []impl.Span) (string, []int, []int) {
	next := []byte(marks)
	var fresh, late []int
	greatest := -1
	for n := len(marks) - 1; n >= 0; n-- {
		comes := slices.ContainsFunc(l, func(x impl.Span) bool { return x.From <= n && n < x.To })
		switch {
		case marks[n] == isHeard:
		case comes:
			next[n] = isHeard
			fresh = append(fresh, n)
		case marks[n] == isOpen && greatest-n >= 3:
			next[n] = isLost
			late = append(late, n)
		}
		if greatest < 0 && next[n] == isHeard {
			greatest = n
		}
	}
	return string(next), turnedRound(fresh), turnedRound(late)
}

// everLost asks of each letter whether one that is three more or greater comes and it does not come ahead of that.
func everLost(many int, order []int) ([]int, bool) {
	come := []byte(strings.Repeat("o", many))
	places := slices.Repeat([]int{len(order)}, many)
	for at, n := range order {
		places[n] = at
		come[n] = isHeard
		if len(runsIn(string(come), isHeard)) > 20 {
			return nil, false
		}
	}
	var l []int
	for n := range many {
		for _, at := range places[min(n+3, many):] {
			if at < places[n] {
				l = append(l, n)
				break
			}
		}
	}
	return l, true
}

func spansOfAll(order []int) ([]impl.Span, bool) {
	marks := []byte(strings.Repeat("o", 60))
	for _, n := range order {
		marks[n] = isHeard
	}
	l := runsIn(string(marks), isHeard)
	return l, len(l) <= 20
}

func latestPair(order []int) int {
	latest := 0
	for k, one := range order {
		for _, ahead := range order[:k] {
			latest = max(latest, ahead-one)
		}
	}
	return latest
}

// shakenMarks are of a kind: 0 all three, 1 mostly heard of, 2 mostly open, 3 mostly lost, 4 every other one heard of, 5 the greatest ones open, 6 the least ones heard of.
func shakenMarks(many, kind int, next func(upto int) int) string {
	marks := make([]byte, many)
	cut := next(many + 1)
	for n := range marks {
		marks[n] = "hlo"[next(3)]
		switch {
		case kind == 1 && next(8) > 0, kind == 6 && n < cut:
			marks[n] = isHeard
		case kind == 2 && next(8) > 0, kind == 5 && n >= cut:
			marks[n] = isOpen
		case kind == 3 && next(8) > 0:
			marks[n] = isLost
		case kind == 4 && next(12) > 0:
			marks[n] = "ho"[n%2]
		}
		if len(runsIn(string(marks[:n+1]), isHeard)) > 20 {
			marks[n] = "lo"[next(2)]
		}
	}
	return string(marks)
}

func marksToTry(each int) []string {
	next := shaker(111)
	var all []string
	for kind := range 7 {
		for k := range each {
			many := 60
			if k%2 == 1 {
				many = next(61)
			}
			all = append(all, shakenMarks(many, kind, next))
		}
	}
	return all
}

// smallMarks are all with so many letters.
func smallMarks(many int) []string {
	all := []string{""}
	for range many {
		var longer []string
		for _, marks := range all {
			for _, one := range "hlo" {
				longer = append(longer, marks+string(one))
			}
		}
		all = longer
	}
	return all
}

// partOrders are all orders of some of the letters below many.
func partOrders(many int) [][]int {
	all := [][]int{nil}
	for k := 0; k < len(all); k++ {
		for n := range many {
			if !slices.Contains(all[k], n) {
				all = append(all, append(slices.Clone(all[k]), n))
			}
		}
	}
	return all
}

// nearOrder lets letters pass each other, none by more than so many at a time, and leaves some out.
func nearOrder(many, by, leaves int, next func(upto int) int) []int {
	var order []int
	waiting := fromBelow(0, many)
	for len(waiting) > 0 {
		k := 0
		for next(2) == 0 && k+1 < len(waiting) && waiting[k+1]-waiting[0] <= by {
			k++
		}
		if leaves == 0 || next(leaves) > 0 {
			order = append(order, waiting[k])
		}
		waiting = slices.Delete(waiting, k, k+1)
	}
	return order
}

// scattered are so many letters of which no two are next to each other, and a few more among them.
func scattered(many, more int, next func(upto int) int) []int {
	order := everyOther(many, next(60-2*many))
	for range more {
		if n := next(60); !slices.Contains(order, n) {
			order = append(order, n)
		}
	}
	shaken := make([]int, len(order))
	for at, k := range shakenOrder(len(order), next(1000)) {
		shaken[at] = order[k]
	}
	return shaken
}

func ordersToTry(each int) [][]int {
	next := shaker(222)
	var all [][]int
	for k := range each {
		many := next(61)
		all = append(all, shakenOrder(many, k), shakenOrder(60, k)[:many], scattered(19+next(4), next(3), next))
		for by := range 6 {
			all = append(all, nearOrder(60, by, 0, next), nearOrder(many, by, 2+next(9), next))
		}
	}
	return all
}

func wantSender(t *testing.T, what string, got impl.Sender, ok bool, want impl.Sender) {
	t.Helper()
	if !ok || !sameSender(got, want) || !impl.GoodSender(got) {
		t.Errorf("%s: %v, %t, not %v", what, got, ok, want)
	}
}

func wantHearing(t *testing.T, marks string, l []impl.Span, want string, fresh, late []int) {
	t.Helper()
	got, first, gone, ok := impl.HearSpans(standing(marks), l)
	if !ok || !sameSender(got, standing(want)) || !slices.Equal(first, fresh) || !slices.Equal(gone, late) {
		t.Errorf("HearSpans(%s, %v): %v, %v, %v, %t, not %s, %v, %v", marks, l, got, first, gone, ok, want, fresh, late)
	}
	if !impl.GoodSender(got) {
		t.Errorf("HearSpans(%s, %v): %v is not good", marks, l, got)
	}
}

func wantNoHearing(t *testing.T, s impl.Sender, l []impl.Span) {
	t.Helper()
	got, fresh, late, ok := impl.HearSpans(s, l)
	if ok || !isNoSender(got) || len(fresh) != 0 || len(late) != 0 {
		t.Errorf("HearSpans(%v, %v): %v, %v, %v, %t", s, l, got, fresh, late, ok)
	}
}

func wantLetters(t *testing.T, what string, got []int, ok bool, want []int) {
	t.Helper()
	if !ok || !slices.Equal(got, want) {
		t.Errorf("%s: %v, %t, not %v", what, got, ok, want)
	}
}

func wantNoLetters(t *testing.T, what string, got []int, ok bool) {
	t.Helper()
	if ok || len(got) != 0 {
		t.Errorf("%s: %v, %t", what, got, ok)
	}
}

func wantLate(t *testing.T, order []int, want int) {
	t.Helper()
	if late, ok := impl.LateBy(order); late != want || !ok {
		t.Errorf("LateBy(%v): %d, %t, not %d", order, late, ok, want)
	}
}

func TestLimitsOfLetters(t *testing.T) {
	if impl.Threshold != 3 || impl.MaxLetters != 60 {
		t.Error(impl.Threshold, impl.MaxLetters)
	}
}

func TestNewSenders(t *testing.T) {
	for first := range 61 {
		s, ok := impl.NewSender(first)
		wantSender(t, "NewSender", s, ok, impl.Sender{Next: first})
		open, ok := impl.OpenIn(s)
		wantLetters(t, "OpenIn", open, ok, fromBelow(0, first))
	}
}

func TestSendersJustWithinTheirLimits(t *testing.T) {
	all := []impl.Sender{
		{},
		{Next: 60},
		{Next: 1, Heard: []impl.Span{span(0, 1)}},
		{Next: 1, Lost: []int{0}},
		{Next: 60, Heard: []impl.Span{span(0, 60)}},
		{Next: 60, Lost: fromBelow(0, 60)},
		{Next: 60, Lost: []int{0, 59}},
		{Next: 60, Heard: []impl.Span{span(59, 60)}, Lost: fromBelow(0, 59)},
		{Next: 60, Heard: []impl.Span{span(0, 1)}, Lost: fromBelow(1, 60)},
		{Next: 60, Heard: rowOf(20, 0, 1, 2), Lost: []int{1, 3, 39, 40, 59}},
		{Next: 60, Heard: rowOf(20, 1, 2, 3), Lost: []int{0, 3, 57}},
		{Next: 10, Heard: []impl.Span{span(2, 4), span(6, 8)}, Lost: []int{1, 4, 5, 8}},
		// Open ones that are overtaken by far: they are taken for lost only when something is heard.
		{Next: 60, Heard: []impl.Span{span(59, 60)}},
		// Lost ones that nothing has overtaken.
		{Next: 5, Lost: []int{4}},
	}
	for _, s := range all {
		if !impl.GoodSender(s) {
			t.Errorf("GoodSender(%v): not good", s)
		}
	}
	for many := range 7 {
		for _, marks := range smallMarks(many) {
			if !impl.GoodSender(standing(marks)) {
				t.Errorf("GoodSender(%s): not good", marks)
			}
		}
	}
	for _, marks := range marksToTry(40) {
		if !impl.GoodSender(standing(marks)) {
			t.Errorf("GoodSender(%s): not good", marks)
		}
	}
}

func TestSendingUpToTheMost(t *testing.T) {
	for _, from := range []string{"", "o", "h", "l", "hol", "hhhollloho"} {
		s := standing(from)
		for n := len(from); n < 60; n++ {
			next, sent, ok := impl.SendNext(s)
			wantSender(t, "SendNext", next, ok, standing(from+strings.Repeat("o", n+1-len(from))))
			if sent != n {
				t.Errorf("SendNext(%v): %d was sent", s, sent)
			}
			s = next
		}
		if next, sent, ok := impl.SendNext(s); ok || sent != 0 || !isNoSender(next) {
			t.Errorf("SendNext(%v): %v, %d, %t", s, next, sent, ok)
		}
	}
	for _, marks := range marksToTry(20) {
		next, sent, ok := impl.SendNext(standing(marks))
		if len(marks) == 60 {
			if ok || sent != 0 || !isNoSender(next) {
				t.Errorf("SendNext(%s): %v, %d, %t", marks, next, sent, ok)
			}
			continue
		}
		wantSender(t, "SendNext", next, ok, standing(marks+"o"))
		if sent != len(marks) {
			t.Errorf("SendNext(%s): %d was sent", marks, sent)
		}
	}
}

func TestOpenOnes(t *testing.T) {
	for _, c := range []struct {
		marks string
		open  []int
	}{
		{"", nil},
		{"o", []int{0}},
		{"h", nil},
		{"l", nil},
		{"ohlo", []int{0, 3}},
		{"ooooh", []int{0, 1, 2, 3}},
		{"hhhlll", nil},
		{"lohlohlo", []int{1, 4, 7}},
	} {
		open, ok := impl.OpenIn(standing(c.marks))
		wantLetters(t, "OpenIn "+c.marks, open, ok, c.open)
	}
	for _, marks := range append(smallMarks(6), marksToTry(40)...) {
		open, ok := impl.OpenIn(standing(marks))
		wantLetters(t, "OpenIn "+marks, open, ok, placesIn(marks, isOpen))
	}
}

func TestHearing(t *testing.T) {
	for _, c := range []struct {
		marks string
		hears []impl.Span
		want  string
		fresh []int
		late  []int
	}{
		// Nothing heard.
		{"", nil, "", nil, nil},
		{"ooo", nil, "ooo", nil, nil},
		{"olh", nil, "olh", nil, nil},
		{"llllll", nil, "llllll", nil, nil},
		// New ones, and ones heard already.
		{"o", []impl.Span{span(0, 1)}, "h", []int{0}, nil},
		{"h", []impl.Span{span(0, 1)}, "h", nil, nil},
		{"hho", []impl.Span{span(0, 3)}, "hhh", []int{2}, nil},
		{"ohho", []impl.Span{span(0, 4)}, "hhhh", []int{0, 3}, nil},
		{"hhho", []impl.Span{span(1, 2)}, "hhho", nil, nil},
		{"ohohoh", []impl.Span{span(0, 6)}, "hhhhhh", []int{0, 2, 4}, nil},
		{"ooohoo", []impl.Span{span(1, 2), span(4, 5)}, "lhohho", []int{1, 4}, []int{0}},
		// The greatest heard is one less than the threshold more, just that, and greater.
		{"ooo", []impl.Span{span(2, 3)}, "ooh", []int{2}, nil},
		{"oooo", []impl.Span{span(3, 4)}, "looh", []int{3}, []int{0}},
		{"ooooo", []impl.Span{span(4, 5)}, "llooh", []int{4}, []int{0, 1}},
		{"oooooooo", []impl.Span{span(5, 6)}, "llloohoo", []int{5}, []int{0, 1, 2}},
		{"hoo", []impl.Span{span(2, 3)}, "hoh", []int{2}, nil},
		// The greatest is looked at over all that was heard, not over what is heard now.
		{"oooooh", []impl.Span{span(0, 1)}, "hllooh", []int{0}, []int{1, 2}},
		{"oooooh", []impl.Span{span(3, 4)}, "lllhoh", []int{3}, []int{0, 1, 2}},
		{"oooooh", nil, "lllooh", nil, []int{0, 1, 2}},
		{"oooooh", []impl.Span{span(5, 6)}, "lllooh", nil, []int{0, 1, 2}},
		// Those that come with it are heard of, and not lost.
		{"oooooo", []impl.Span{span(0, 1), span(5, 6)}, "hllooh", []int{0, 5}, []int{1, 2}},
		{"oooooo", []impl.Span{span(0, 6)}, "hhhhhh", []int{0, 1, 2, 3, 4, 5}, nil},
		// Lost ones may yet be heard, and are told as new; others stay lost, and are not told again.
		{"l", []impl.Span{span(0, 1)}, "h", []int{0}, nil},
		{"llooh", []impl.Span{span(0, 1)}, "hlooh", []int{0}, nil},
		{"llooh", []impl.Span{span(0, 2)}, "hhooh", []int{0, 1}, nil},
		{"llooho", []impl.Span{span(5, 6)}, "lllohh", []int{5}, []int{2}},
		{"lloohoo", []impl.Span{span(1, 3), span(6, 7)}, "lhhlhoh", []int{1, 2, 6}, []int{3}},
		// A lost one that comes may itself be the greatest.
		{"oooool", []impl.Span{span(5, 6)}, "lllooh", []int{5}, []int{0, 1, 2}},
		// Lost ones overtake nothing.
		{"oooool", nil, "oooool", nil, nil},
		{"oooool", []impl.Span{span(2, 3)}, "oohool", []int{2}, nil},
		// Spans that touch what was heard.
		{"ohhoo", []impl.Span{span(3, 4)}, "lhhho", []int{3}, []int{0}},
		{"hhhoo", []impl.Span{span(3, 5)}, "hhhhh", []int{3, 4}, nil},
		{"ohhoo", []impl.Span{span(0, 1)}, "hhhoo", []int{0}, nil},
		{"hhohho", []impl.Span{span(2, 3)}, "hhhhho", []int{2}, nil},
		{"hhollh", []impl.Span{span(2, 3)}, "hhhllh", []int{2}, nil},
	} {
		wantHearing(t, c.marks, c.hears, c.want, c.fresh, c.late)
		if model, fresh, late := hearing(c.marks, c.hears); model != c.want || !slices.Equal(fresh, c.fresh) || !slices.Equal(late, c.late) {
			t.Errorf("%s, %v: told apart %s, %v, %v", c.marks, c.hears, model, fresh, late)
		}
	}
}

func TestEmptySpansAreGoodToHear(t *testing.T) {
	for _, l := range [][]impl.Span{nil, {}} {
		wantHearing(t, "hohooooo", l, "hohooooo", nil, nil)
		wantHearing(t, "", l, "", nil, nil)
		wantHearing(t, strings.Repeat("o", 59)+"h", l, strings.Repeat("l", 57)+"ooh", nil, fromBelow(0, 57))
	}
}

func TestHearingOfAFewLetters(t *testing.T) {
	lost, yet, again := 0, 0, 0
	for many := range 7 {
		for _, marks := range smallMarks(many) {
			for set := range 1 << many {
				l := runsOf(set, 0)
				want, fresh, late := hearing(marks, l)
				wantHearing(t, marks, l, want, fresh, late)
				if len(late) > 0 {
					lost++
				}
				if strings.Count(want, "l") < strings.Count(marks, "l") {
					yet++
				}
				if len(fresh) == 0 && set > 0 {
					again++
				}
			}
		}
	}
	if lost < 500 || yet < 500 || again < 500 {
		t.Error("too few of a kind:", lost, yet, again)
	}
}

func TestHearingOfManyLetters(t *testing.T) {
	next := shaker(333)
	just, refused, lost, yet := 0, 0, 0, 0
	for _, marks := range marksToTry(300) {
		for kind := range 7 {
			l := runsIn(shakenMarks(len(marks), kind, next), isHeard)
			want, fresh, late := hearing(marks, l)
			many := len(runsIn(want, isHeard))
			if many > 20 {
				wantNoHearing(t, standing(marks), l)
				refused++
				continue
			}
			wantHearing(t, marks, l, want, fresh, late)
			if many == 20 {
				just++
			}
			if len(late) > 0 {
				lost++
			}
			if len(fresh) > 0 && slices.ContainsFunc(fresh, func(n int) bool { return marks[n] == isLost }) {
				yet++
			}
		}
	}
	if just < 100 || refused < 100 || lost < 500 || yet < 500 {
		t.Error("too few of a kind:", just, refused, lost, yet)
	}
}

func TestAsManySpansAsCanBe(t *testing.T) {
	most := strings.Repeat("ho", 20)
	rest := strings.Repeat("o", 20)
	// The twentieth.
	wantHearing(t, most[:38]+"oo"+rest, []impl.Span{span(38, 39)}, strings.Replace(most[:36], "o", "l", 18)+"hoho"+rest, []int{38}, placesIn(most[:36], isOpen))
	whole := strings.Replace(most[:36], "o", "l", 18) + "hoho" + rest
	// One more, behind it, in the midst, and far behind.
	for _, n := range []int{40, 41, 59} {
		wantNoHearing(t, standing(whole), []impl.Span{span(n, n+1)})
		wantNoHearing(t, standing(whole), []impl.Span{span(0, 1), span(n, n+1)})
	}
	wide := strings.Repeat("hhoooh", 10)
	wantNoHearing(t, standing(strings.Repeat("hooo", 15)), rowOf(6, 2, 1, 4))
	wantNoHearing(t, standing(wide), rowOf(10, 3, 1, 6))
	wantHearing(t, wide, nil, strings.Repeat("hhlllh", 9)+"hhlooh", nil, slices.DeleteFunc(fromBelow(0, 57), func(n int) bool { return wide[n] == isHeard }))
	// Those that join two are not too many, nor are those that come with one that joins.
	joins, fresh, late := hearing(whole, []impl.Span{span(1, 2)})
	wantHearing(t, whole, []impl.Span{span(1, 2)}, joins, fresh, late)
	joins, fresh, late = hearing(whole, []impl.Span{span(1, 2), span(59, 60)})
	wantHearing(t, whole, []impl.Span{span(1, 2), span(59, 60)}, joins, fresh, late)
	wantHearing(t, whole, []impl.Span{span(39, 60)}, whole[:37]+"l"+strings.Repeat("h", 22), fromBelow(39, 60), []int{37})
	wantHearing(t, whole, []impl.Span{span(0, 60)}, strings.Repeat("h", 60), placesIn(strings.Repeat("oh", 19)+"oh"+strings.Repeat("h", 20), isHeard), nil)
	// As many as can be handed in, to one that has heard of nothing, and to one that has as many between them.
	all := rowOf(20, 0, 1, 3)
	want, fresh, late := hearing(strings.Repeat("o", 60), all)
	wantHearing(t, strings.Repeat("o", 60), all, want, fresh, late)
	between := strings.Repeat("ohh", 20)
	wantHearing(t, between, all, strings.Repeat("h", 60), placesIn(between, isOpen), nil)
	wantNoHearing(t, standing(strings.Repeat("o", 60)), rowOf(21, 0, 1, 2))
}

func TestLettersAreHeardLostOrOpen(t *testing.T) {
	next := shaker(444)
	for _, marks := range marksToTry(120) {
		s := standing(marks)
		for step := range 12 {
			before := s
			if step%4 == 3 {
				sent, _, ok := impl.SendNext(s)
				if ok {
					s = sent
				}
			} else {
				n := next(max(s.Next, 1))
				heard, _, _, ok := impl.HearSpans(s, []impl.Span{span(n, min(n+1+next(4), max(s.Next, n+1)))})
				if ok {
					s = heard
				}
			}
			open, ok := impl.OpenIn(s)
			if !ok || !impl.GoodSender(s) {
				t.Fatalf("%v is not good", s)
			}
			all := slices.Concat(open, s.Lost)
			for _, x := range s.Heard {
				all = append(all, fromBelow(x.From, x.To)...)
			}
			slices.Sort(all)
			if !slices.Equal(all, fromBelow(0, s.Next)) {
				t.Errorf("%v with %v open: not each just once", s, open)
			}
			for _, x := range before.Heard {
				if both, ok := impl.MeetSpans(s.Heard, []impl.Span{x}); !ok || !slices.Equal(both, []impl.Span{x}) {
					t.Errorf("%v, heard of in %v, is not in %v", x, before, s)
				}
			}
		}
	}
}

func TestSpansOfOrders(t *testing.T) {
	for _, c := range []struct {
		order []int
		want  []impl.Span
	}{
		{nil, nil},
		{[]int{}, nil},
		{[]int{0}, []impl.Span{span(0, 1)}},
		{[]int{59}, []impl.Span{span(59, 60)}},
		{[]int{0, 1, 2}, []impl.Span{span(0, 3)}},
		{[]int{2, 1, 0}, []impl.Span{span(0, 3)}},
		{[]int{2, 0, 1}, []impl.Span{span(0, 3)}},
		{[]int{0, 2}, []impl.Span{span(0, 1), span(2, 3)}},
		{[]int{59, 0}, []impl.Span{span(0, 1), span(59, 60)}},
		{[]int{5, 1, 3, 2, 8}, []impl.Span{span(1, 4), span(5, 6), span(8, 9)}},
		{fromBelow(0, 60), []impl.Span{span(0, 60)}},
		{turnedRound(fromBelow(0, 60)), []impl.Span{span(0, 60)}},
		{turnedRound(fromBelow(7, 31)), []impl.Span{span(7, 31)}},
	} {
		got, ok := impl.AcksOf(c.order)
		wantSpans(t, "AcksOf", got, ok, c.want)
	}
	for _, order := range partOrders(6) {
		want, _ := spansOfAll(order)
		got, ok := impl.AcksOf(order)
		wantSpans(t, "AcksOf", got, ok, want)
	}
}

func TestOrdersOfTooManySpans(t *testing.T) {
	got, ok := impl.AcksOf(everyOther(20, 0))
	wantSpans(t, "AcksOf", got, ok, rowOf(20, 0, 1, 2))
	got, ok = impl.AcksOf(turnedRound(everyOther(20, 21)))
	wantSpans(t, "AcksOf", got, ok, rowOf(20, 21, 1, 2))
	for many := 21; many <= 30; many++ {
		for _, order := range [][]int{everyOther(many, 0), turnedRound(everyOther(many, 60-2*many))} {
			got, ok = impl.AcksOf(order)
			wantNoSpans(t, "AcksOf", got, ok)
		}
	}
	// Only the end is counted: thirty spans become one, twenty-one become twenty.
	got, ok = impl.AcksOf(slices.Concat(everyOther(30, 0), everyOther(30, 1)))
	wantSpans(t, "AcksOf", got, ok, []impl.Span{span(0, 60)})
	got, ok = impl.AcksOf(append(everyOther(21, 0), 39))
	wantSpans(t, "AcksOf", got, ok, append(rowOf(19, 0, 1, 2), span(38, 41)))
	just, refused := 0, 0
	for _, order := range ordersToTry(200) {
		want, is := spansOfAll(order)
		got, ok := impl.AcksOf(order)
		if !is {
			wantNoSpans(t, "AcksOf", got, ok)
			refused++
			continue
		}
		wantSpans(t, "AcksOf", got, ok, want)
		if len(want) == 20 {
			just++
		}
	}
	if just < 20 || refused < 20 {
		t.Error("too few of a kind:", just, refused)
	}
}

func TestHowLateLettersCome(t *testing.T) {
	for _, c := range []struct {
		order []int
		want  int
	}{
		{nil, 0},
		{[]int{}, 0},
		{[]int{0}, 0},
		{[]int{59}, 0},
		{[]int{0, 1, 2, 3}, 0},
		{[]int{0, 30, 59}, 0},
		{[]int{1, 0}, 1},
		{[]int{0, 3, 1, 2}, 2},
		{[]int{3, 0}, 3},
		{[]int{5, 7, 4}, 3},
		{[]int{7, 5, 4}, 3},
		{[]int{0, 9, 8, 4, 6}, 5},
		{[]int{59, 0}, 59},
		{[]int{1, 59, 2, 0}, 59},
		{fromBelow(0, 60), 0},
		{turnedRound(fromBelow(0, 60)), 59},
		{turnedRound(fromBelow(20, 31)), 10},
	} {
		wantLate(t, c.order, c.want)
	}
	for _, order := range append(partOrders(6), ordersToTry(80)...) {
		wantLate(t, order, latestPair(order))
	}
}

func TestPlayingOrders(t *testing.T) {
	for _, c := range []struct {
		many  int
		order []int
		want  []int
	}{
		{0, nil, nil},
		{0, []int{}, nil},
		{60, nil, nil},
		{1, []int{0}, nil},
		{5, []int{3, 0, 1}, []int{0}},
		// Heard of later on: it was taken for lost.
		{4, []int{3, 0, 1, 2}, []int{0}},
		{4, []int{3, 2, 1, 0}, []int{0}},
		{5, []int{4, 3, 2, 1, 0}, []int{0, 1}},
		{3, []int{2, 1, 0}, nil},
		// Those that never come.
		{6, []int{5}, []int{0, 1, 2}},
		{6, []int{0, 1, 2, 4, 5}, nil},
		{7, []int{0, 1, 2, 4, 5, 6}, []int{3}},
		{60, []int{59}, fromBelow(0, 57)},
		{60, []int{0}, nil},
		{60, []int{2, 3}, []int{0}},
		{60, fromBelow(0, 60), nil},
		{60, turnedRound(fromBelow(0, 60)), fromBelow(0, 57)},
		{31, turnedRound(fromBelow(0, 31)), fromBelow(0, 28)},
		{60, turnedRound(fromBelow(0, 31)), fromBelow(0, 28)},
		// Taken for lost at two times, and told in their own order.
		{10, []int{5, 3, 4, 9}, []int{0, 1, 2, 6}},
		{12, []int{6, 0, 11, 3, 2, 1}, []int{0, 1, 2, 3, 4, 5, 7, 8}},
	} {
		got, ok := impl.PlayHeard(c.many, c.order)
		wantLetters(t, "PlayHeard", got, ok, c.want)
		want, is := everLost(c.many, c.order)
		wantLetters(t, "told apart", want, is, c.want)
	}
	for many := range 8 {
		for _, order := range partOrders(min(many, 6)) {
			got, ok := impl.PlayHeard(many, order)
			want, _ := everLost(many, order)
			wantLetters(t, "PlayHeard", got, ok, want)
		}
	}
}

func TestPlayingLetterByLetter(t *testing.T) {
	next := shaker(555)
	refused, some := 0, 0
	for _, order := range ordersToTry(80) {
		many := len(order)
		if many > 0 {
			many = slices.Max(order) + 1
		}
		many += next(61 - many)
		got, ok := impl.PlayHeard(many, order)
		want, is := everLost(many, order)
		if !is {
			wantNoLetters(t, "PlayHeard", got, ok)
			refused++
			continue
		}
		wantLetters(t, "PlayHeard", got, ok, want)
		s, _ := impl.NewSender(many)
		var all []int
		for _, n := range order {
			heard, fresh, late, ok := impl.HearSpans(s, []impl.Span{span(n, n+1)})
			if !ok || !slices.Equal(fresh, []int{n}) {
				t.Fatalf("%v: %d, %v, %t", order, n, fresh, ok)
			}
			all = append(all, late...)
			s = heard
		}
		slices.Sort(all)
		wantLetters(t, "PlayHeard", got, ok, all)
		if len(all) > 0 {
			some++
		}
		spans, _ := impl.AcksOf(order)
		if !slices.Equal(s.Heard, spans) {
			t.Errorf("%v: %v heard, %v come", order, s.Heard, spans)
		}
	}
	if refused < 20 || some < 200 {
		t.Error("too few of a kind:", refused, some)
	}
}

func TestPlaysOfTooManySpans(t *testing.T) {
	got, ok := impl.PlayHeard(39, everyOther(20, 0))
	wantLetters(t, "PlayHeard", got, ok, everyOther(18, 1))
	got, ok = impl.PlayHeard(41, everyOther(21, 0))
	wantNoLetters(t, "PlayHeard", got, ok)
	got, ok = impl.PlayHeard(60, turnedRound(everyOther(21, 0)))
	wantNoLetters(t, "PlayHeard", got, ok)
	// On the way each has to tell true, though in the end it is one span.
	got, ok = impl.PlayHeard(60, slices.Concat(everyOther(21, 0), everyOther(20, 1)))
	wantNoLetters(t, "PlayHeard", got, ok)
	got, ok = impl.PlayHeard(60, slices.Concat(everyOther(20, 0), everyOther(20, 1)))
	wantLetters(t, "PlayHeard", got, ok, everyOther(18, 1))
}

// wantNoneLostThatComes tells whether the order was played, and how late a letter came in it.
func wantNoneLostThatComes(t *testing.T, many int, order []int) (bool, int) {
	t.Helper()
	late, ok := impl.LateBy(order)
	if !ok {
		t.Errorf("LateBy(%v): false", order)
	}
	gone, ok := impl.PlayHeard(many, order)
	if !ok {
		return false, late
	}
	both := slices.DeleteFunc(slices.Clone(gone), func(n int) bool { return !slices.Contains(order, n) })
	if late < impl.Threshold && len(both) > 0 {
		t.Errorf("%v of %d: late by %d, and %v were taken for lost", order, many, late, both)
	}
	if late >= impl.Threshold && len(both) == 0 {
		t.Errorf("%v of %d: late by %d, and none that came was taken for lost", order, many, late)
	}
	return true, late
}

func TestNoneThatComesInTimeIsTakenForLost(t *testing.T) {
	var byLate [60]int
	try := func(many int, order []int) {
		if played, late := wantNoneLostThatComes(t, many, order); played {
			byLate[late]++
		}
	}
	for _, order := range partOrders(6) {
		try(6, order)
		try(9, order)
	}
	for _, order := range everyOrder(7) {
		try(7, order)
	}
	for _, order := range ordersToTry(100) {
		try(60, order)
	}
	for late := range 60 {
		// Each letter in turn comes behind the one that is so much greater, and all others in order.
		for n := range 60 - late {
			order := slices.DeleteFunc(fromBelow(0, 60), func(m int) bool { return m == n })
			order = slices.Insert(order, n+late, n)
			wantLate(t, order, late)
			gone, ok := impl.PlayHeard(60, order)
			if late < 3 {
				wantLetters(t, "PlayHeard", gone, ok, nil)
			} else {
				wantLetters(t, "PlayHeard", gone, ok, []int{n})
			}
		}
	}
	for late, many := range byLate[:6] {
		if many < 100 {
			t.Errorf("only %d orders that are late by %d", many, late)
		}
	}
}

func TestOrdersNextToTheThreshold(t *testing.T) {
	for base := range 56 {
		// Late by one less, just so, and by one more.
		got, ok := impl.PlayHeard(60, append(fromBelow(0, base), base+2, base, base+1))
		wantLetters(t, "PlayHeard", got, ok, nil)
		got, ok = impl.PlayHeard(60, append(fromBelow(0, base), base+3, base, base+1, base+2))
		wantLetters(t, "PlayHeard", got, ok, []int{base})
		got, ok = impl.PlayHeard(60, append(fromBelow(0, base), base+4, base, base+1, base+2, base+3))
		wantLetters(t, "PlayHeard", got, ok, []int{base, base + 1})
	}
}

func wrongSenders() []impl.Sender {
	var all []impl.Sender
	for _, next := range []int{-1, -60, 61, 1000, math.MinInt, math.MinInt + 1, math.MaxInt, math.MaxInt - 1} {
		all = append(all, impl.Sender{Next: next}, impl.Sender{Next: next, Heard: []impl.Span{span(0, 1)}},
			impl.Sender{Next: next, Lost: []int{0}}, impl.Sender{Next: next, Heard: []impl.Span{span(3, 6)}, Lost: []int{0, 2}})
	}
	for _, l := range wrongLists() {
		all = append(all, impl.Sender{Next: 60, Heard: l}, impl.Sender{Next: 60, Heard: l, Lost: []int{50}}, impl.Sender{Next: 0, Heard: l})
	}
	for _, l := range [][]impl.Span{{span(0, 11)}, {span(10, 11)}, {span(0, 1), span(9, 11)}, {span(0, 1), span(59, 60)}, {span(500, 600)}, {span(0, impl.MaxEnd)}} {
		all = append(all, impl.Sender{Next: 10, Heard: l}, impl.Sender{Next: 0, Heard: l})
	}
	all = append(all, impl.Sender{Next: 60, Heard: []impl.Span{span(0, 61)}}, impl.Sender{Next: 60, Heard: []impl.Span{span(60, 61)}})
	for _, l := range wrongLosts() {
		all = append(all, impl.Sender{Next: 10, Lost: l}, impl.Sender{Next: 10, Heard: []impl.Span{span(4, 6)}, Lost: l})
	}
	// Both heard of and lost.
	for n := range 4 {
		all = append(all, impl.Sender{Next: 10, Heard: []impl.Span{span(3, 7)}, Lost: []int{3 + n}})
		all = append(all, impl.Sender{Next: 10, Heard: []impl.Span{span(3, 7)}, Lost: []int{1, 3 + n, 8}})
		all = append(all, impl.Sender{Next: 10, Heard: []impl.Span{span(0, 1), span(3, 7)}, Lost: []int{1, 2, 3 + n}})
	}
	return append(all, impl.Sender{Next: 1, Heard: []impl.Span{span(0, 1)}, Lost: []int{0}}, impl.Sender{Next: 60, Heard: []impl.Span{span(59, 60)}, Lost: fromBelow(0, 60)})
}

// wrongLosts are wrong where Next is 10.
func wrongLosts() [][]int {
	all := [][]int{
		{1, 0}, {0, 2, 1}, {9, 8, 7}, {2, 3, 1}, {0, 0}, {1, 1, 2}, {0, 9, 9}, {1, 2, 1},
		{-1}, {-1, 0}, {0, -1}, {10}, {0, 10}, {9, 10}, {59}, {60},
		{math.MinInt}, {math.MinInt, 0}, {0, math.MinInt}, {math.MaxInt}, {0, math.MaxInt}, {math.MinInt, math.MaxInt},
	}
	return append(all, fromBelow(0, 11), fromBelow(-1, 10), make([]int, 10), make([]int, 100000))
}

func TestWrongSendersAreRefused(t *testing.T) {
	for _, s := range wrongSenders() {
		if impl.GoodSender(s) {
			t.Errorf("GoodSender(%v)", s)
		}
		if next, sent, ok := impl.SendNext(s); ok || sent != 0 || !isNoSender(next) {
			t.Errorf("SendNext(%v): %v, %d, %t", s, next, sent, ok)
		}
		for _, l := range [][]impl.Span{nil, {span(0, 1)}, {span(0, 60)}, {span(1, 2), span(8, 9)}, s.Heard} {
			wantNoHearing(t, s, l)
		}
		open, ok := impl.OpenIn(s)
		wantNoLetters(t, "OpenIn", open, ok)
	}
	for _, first := range []int{-1, -60, 61, 1000, math.MinInt, math.MinInt + 1, math.MaxInt, math.MaxInt - 1} {
		if s, ok := impl.NewSender(first); ok || !isNoSender(s) {
			t.Errorf("NewSender(%d): %v, %t", first, s, ok)
		}
	}
}

func TestWrongSpansAreNotHeard(t *testing.T) {
	senders := []string{"", "o", "oooooooooo", "hlohlohloo", "ooooo" + strings.Repeat("h", 55), strings.Repeat("o", 60), strings.Repeat("h", 60), strings.Repeat("l", 60)}
	for _, marks := range senders {
		for _, l := range wrongLists() {
			wantNoHearing(t, standing(marks), l)
		}
		many := len(marks)
		for _, l := range [][]impl.Span{{span(0, many+1)}, {span(many, many+1)}, {span(many+1, many+2)}, {span(0, impl.MaxEnd)}, {span(impl.MaxEnd-1, impl.MaxEnd)}} {
			wantNoHearing(t, standing(marks), l)
		}
		if many > 2 {
			wantNoHearing(t, standing(marks), []impl.Span{span(0, 1), span(2, many+1)})
			want, fresh, late := hearing(marks, []impl.Span{span(0, 1), span(2, many)})
			wantHearing(t, marks, []impl.Span{span(0, 1), span(2, many)}, want, fresh, late)
		}
	}
}

func wrongOrders() [][]int {
	all := [][]int{
		{0, 0}, {5, 5}, {1, 2, 1}, {59, 0, 59}, {-1}, {0, -1}, {-1, 0}, {60}, {0, 60}, {60, 0}, {-1, 60}, {1000}, {-60, 3},
		{math.MinInt}, {0, math.MinInt}, {math.MaxInt}, {math.MaxInt, 0}, {math.MinInt, math.MaxInt}, {math.MinInt + 1}, {math.MaxInt - 1},
		append(fromBelow(0, 60), 0), append(fromBelow(0, 60), 59), fromBelow(0, 61), turnedRound(fromBelow(-1, 59)), turnedRound(fromBelow(0, 61)),
		append(fromBelow(0, 59), 0), append(fromBelow(1, 60), -1), append(fromBelow(1, 60), 60), make([]int, 60), make([]int, 61), make([]int, 100000),
	}
	return append(all, fromBelow(0, 100000), fromBelow(-30, 30))
}

func TestWrongOrdersAreRefused(t *testing.T) {
	for _, order := range wrongOrders() {
		spans, ok := impl.AcksOf(order)
		wantNoSpans(t, "AcksOf", spans, ok)
		if late, ok := impl.LateBy(order); ok || late != 0 {
			t.Errorf("LateBy(%v): %d, %t", order, late, ok)
		}
		for _, many := range []int{0, 1, 6, 59, 60, 61, -1, math.MinInt, math.MaxInt} {
			gone, ok := impl.PlayHeard(many, order)
			wantNoLetters(t, "PlayHeard", gone, ok)
		}
	}
	for _, many := range []int{-1, -60, 61, 1000, math.MinInt, math.MinInt + 1, math.MaxInt, math.MaxInt - 1} {
		for _, order := range [][]int{nil, {}, {0}, {3, 0, 1}, fromBelow(0, 60)} {
			gone, ok := impl.PlayHeard(many, order)
			wantNoLetters(t, "PlayHeard", gone, ok)
		}
	}
}

func TestLettersThatWereNotSentAreRefused(t *testing.T) {
	for many := range 60 {
		for _, order := range [][]int{{many}, {59}, fromBelow(0, many+1), turnedRound(fromBelow(0, many+1)), append(fromBelow(0, many), 59)} {
			gone, ok := impl.PlayHeard(many, order)
			wantNoLetters(t, "PlayHeard", gone, ok)
		}
		gone, ok := impl.PlayHeard(many, fromBelow(0, many))
		wantLetters(t, "PlayHeard", gone, ok, nil)
	}
}

func withHiddenSender(s impl.Sender) impl.Sender {
	return impl.Sender{Next: s.Next, Heard: withHidden(s.Heard, secret), Lost: withHidden(s.Lost, hiddenNumber)}
}

func wantSenderUnchanged(t *testing.T, what string, given, were impl.Sender) {
	t.Helper()
	if given.Next != were.Next {
		t.Errorf("%s: %v has become %v", what, were, given)
	}
	wantUnchanged(t, what, given.Heard, were.Heard, secret)
	wantUnchanged(t, what, given.Lost, were.Lost, hiddenNumber)
}

func wreckedSender(t *testing.T, what string, s impl.Sender) {
	t.Helper()
	wrecked(t, what, s.Heard, secret)
	wrecked(t, what, s.Lost, hiddenNumber)
}

func sendersToTry() []impl.Sender {
	var all []impl.Sender
	for _, marks := range append(smallMarks(4), marksToTry(12)...) {
		all = append(all, standing(marks))
	}
	return append(all, wrongSenders()...)
}

func TestSendersAreNotWrittenInto(t *testing.T) {
	next := shaker(666)
	for _, were := range sendersToTry() {
		given := withHiddenSender(were)
		if impl.GoodSender(given) != impl.GoodSender(were) {
			t.Errorf("GoodSender(%v): what lies behind is read", were)
		}
		wantSenderUnchanged(t, "GoodSender", given, were)

		sent, n, ok := impl.SendNext(given)
		plain, m, same := impl.SendNext(were)
		if !sameSender(sent, plain) || n != m || ok != same {
			t.Errorf("SendNext(%v): %v, %d, %t, and %v, %d, %t", were, sent, n, ok, plain, m, same)
		}
		wreckedSender(t, "SendNext", sent)
		wantSenderUnchanged(t, "SendNext", given, were)

		open, ok := impl.OpenIn(given)
		plainOpen, same := impl.OpenIn(were)
		if !slices.Equal(open, plainOpen) || ok != same {
			t.Errorf("OpenIn(%v): %v, %t, and %v, %t", were, open, ok, plainOpen, same)
		}
		wrecked(t, "OpenIn", open, hiddenNumber)
		wantSenderUnchanged(t, "OpenIn", given, were)

		spans := [][]impl.Span{nil, {}, were.Heard, {span(0, 1)}, {span(3, 2)}, rowOf(21, 0, 1, 2)}
		for kind := range 7 {
			spans = append(spans, runsIn(shakenMarks(min(max(were.Next, 0), 60), kind, next), isHeard))
		}
		for _, l := range spans {
			wantHearingUntouched(t, were, l)
		}
	}
}

func wantHearingUntouched(t *testing.T, were impl.Sender, l []impl.Span) {
	t.Helper()
	given, hears := withHiddenSender(were), withHidden(l, secret)
	heard, fresh, late, ok := impl.HearSpans(given, hears)
	plain, plainFresh, plainLate, same := impl.HearSpans(were, l)
	if !sameSender(heard, plain) || !slices.Equal(fresh, plainFresh) || !slices.Equal(late, plainLate) || ok != same {
		t.Errorf("HearSpans(%v, %v): %v, %v, %v, %t, and %v, %v, %v, %t", were, l, heard, fresh, late, ok, plain, plainFresh, plainLate, same)
	}
	wreckedSender(t, "HearSpans", heard)
	wrecked(t, "HearSpans", fresh, hiddenNumber)
	wrecked(t, "HearSpans", late, hiddenNumber)
	wantSenderUnchanged(t, "HearSpans", given, were)
	wantUnchanged(t, "HearSpans", hears, l, secret)
	wantApart(t, "HearSpans", [][]int{plain.Lost[:cap(plain.Lost)], plainFresh[:cap(plainFresh)], plainLate[:cap(plainLate)]})
}

func TestOneListHandedInTwice(t *testing.T) {
	for _, marks := range marksToTry(12) {
		given := withHiddenSender(standing(marks))
		heard, fresh, late, ok := impl.HearSpans(given, given.Heard)
		want, _, wantLate := hearing(marks, nil)
		if !ok || !sameSender(heard, standing(want)) || len(fresh) != 0 || !slices.Equal(late, wantLate) {
			t.Errorf("HearSpans(%s) of the same: %v, %v, %v, %t", marks, heard, fresh, late, ok)
		}
		wreckedSender(t, "HearSpans", heard)
		wantSenderUnchanged(t, "HearSpans", given, standing(marks))
	}
}

func TestOrdersOfLettersAreNotWrittenInto(t *testing.T) {
	for _, were := range slices.Concat(partOrders(4), ordersToTry(12), wrongOrders()) {
		given := withHidden(were, hiddenNumber)
		spans, ok := impl.AcksOf(given)
		plain, same := impl.AcksOf(were)
		if !slices.Equal(spans, plain) || ok != same {
			t.Errorf("AcksOf(%v): %v, %t, and %v, %t", were, spans, ok, plain, same)
		}
		wrecked(t, "AcksOf", spans, secret)
		wantUnchanged(t, "AcksOf", given, were, hiddenNumber)

		late, ok := impl.LateBy(given)
		plainLate, same := impl.LateBy(were)
		if late != plainLate || ok != same {
			t.Errorf("LateBy(%v): %d, %t, and %d, %t", were, late, ok, plainLate, same)
		}
		wantUnchanged(t, "LateBy", given, were, hiddenNumber)

		gone, ok := impl.PlayHeard(60, given)
		plainGone, same := impl.PlayHeard(60, were)
		if !slices.Equal(gone, plainGone) || ok != same {
			t.Errorf("PlayHeard(%v): %v, %t, and %v, %t", were, gone, ok, plainGone, same)
		}
		wrecked(t, "PlayHeard", gone, hiddenNumber)
		wantUnchanged(t, "PlayHeard", given, were, hiddenNumber)
	}
}

func TestLettersBehindAListAreNotRead(t *testing.T) {
	// Good ones lie behind, and would be taken up if they were read.
	spans := []impl.Span{span(0, 1), span(3, 4), span(7, 8)}
	lost := []int{1, 5, 6}
	s := impl.Sender{Next: 9, Heard: spans[:1], Lost: lost[:1]}
	open, ok := impl.OpenIn(s)
	wantLetters(t, "OpenIn", open, ok, fromBelow(2, 9))
	heard, fresh, late, ok := impl.HearSpans(s, spans[:2])
	if !ok || !sameSender(heard, standing("hloh"+"ooooo")) || !slices.Equal(fresh, []int{3}) || len(late) != 0 {
		t.Errorf("HearSpans(%v): %v, %v, %v, %t", s, heard, fresh, late, ok)
	}
	sent, _, ok := impl.SendNext(s)
	wantSender(t, "SendNext", sent, ok, standing("hlo"+"ooooooo"))
	order := []int{5, 0, 1, 2}
	acks, ok := impl.AcksOf(order[1:2])
	wantSpans(t, "AcksOf", acks, ok, []impl.Span{span(0, 1)})
	gone, ok := impl.PlayHeard(6, order[:1])
	wantLetters(t, "PlayHeard", gone, ok, []int{0, 1, 2})
	wantLate(t, order[:1], 0)
	if !slices.Equal(spans, []impl.Span{span(0, 1), span(3, 4), span(7, 8)}) || !slices.Equal(lost, []int{1, 5, 6}) {
		t.Error("written behind a list's length:", spans, lost)
	}
}

func TestNilAndEmptyListsOfLettersAreAlike(t *testing.T) {
	for _, next := range []int{0, 1, 59, 60} {
		s := impl.Sender{Next: next, Heard: []impl.Span{}, Lost: []int{}}
		if !impl.GoodSender(s) {
			t.Errorf("GoodSender(%v): not good", s)
		}
		open, ok := impl.OpenIn(s)
		wantLetters(t, "OpenIn", open, ok, fromBelow(0, next))
		for _, l := range [][]impl.Span{nil, {}} {
			heard, fresh, late, ok := impl.HearSpans(s, l)
			wantSender(t, "HearSpans", heard, ok, impl.Sender{Next: next})
			if len(fresh) != 0 || len(late) != 0 {
				t.Errorf("HearSpans(%v, %v): %v, %v", s, l, fresh, late)
			}
		}
	}
}

func TestLettersHangOnWhatIsGivenAlone(t *testing.T) {
	// Many times over, as a map is gone through in another order each time.
	marks := "oohlolhhoooloolohooooolohlooolooooohooolooohooloooooloohoooo"
	order := shakenOrder(60, 7)[:24]
	want, fresh, late := hearing(marks, []impl.Span{span(3, 6), span(50, 55)})
	gone, is := everLost(60, order)
	if !is || len(gone) < 10 || len(late) < 10 {
		t.Fatal("too few to tell an order:", gone, late)
	}
	for range 200 {
		wantHearing(t, marks, []impl.Span{span(3, 6), span(50, 55)}, want, fresh, late)
		open, ok := impl.OpenIn(standing(marks))
		wantLetters(t, "OpenIn", open, ok, placesIn(marks, isOpen))
		played, ok := impl.PlayHeard(60, order)
		wantLetters(t, "PlayHeard", played, ok, gone)
	}
}
