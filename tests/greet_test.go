package tests

import (
	"fmt"
	"math"
	"slices"
	"strconv"
	"strings"
	"testing"

	"loop.example/g00527/impl"
)

const (
	mostGiven   = 1000
	mostOpened  = 300
	givenBefore = 100
)

const (
	closed = iota
	waits
	opens
)

// side is one end: its state, and both numbers as it has them.
type side struct{ state, x, y int }

func ask(x int) impl.Hello {
	return impl.Hello{Kind: impl.GtAsk, X: x}
}

func both(x, y int) impl.Hello {
	return impl.Hello{Kind: impl.GtBoth, X: x, Y: y}
}

func ack(x, y int) impl.Hello {
	return impl.Hello{Kind: impl.GtAck, X: x, Y: y}
}

func greetStep(kind, k int) impl.GreetStep {
	return impl.GreetStep{Kind: kind, K: k}
}

func greet(a, b side, lastX, lastY int, line ...impl.Hello) impl.Greet {
	return impl.Greet{StateA: a.state, X: a.x, OfY: a.y, StateB: b.state, OfX: b.x, Y: b.y, LastX: lastX, LastY: lastY, Line: line}
}

func opened(g impl.Greet, byA, byB []impl.Hello) impl.Greet {
	g.OpenedA, g.OpenedB = byA, byB
	return g
}

func withLine(g impl.Greet, line ...impl.Hello) impl.Greet {
	g.Line = line
	return g
}

func acks(many int) []impl.Hello {
	return slices.Repeat([]impl.Hello{ack(1, 1)}, many)
}

// stepsIn reads steps that are written short: begin, take, lose, twice (w), forget and close, with their K.
func stepsIn(script string) []impl.GreetStep {
	var l []impl.GreetStep
	for _, word := range strings.Fields(script) {
		k, _ := strconv.Atoi(word[1:])
		l = append(l, greetStep(1+strings.IndexByte("btlwfc", word[0]), k))
	}
	return l
}

func sidesOf(g impl.Greet) [2]side {
	return [2]side{{g.StateA, g.X, g.OfY}, {g.StateB, g.OfX, g.Y}}
}

func sameGreet(a, b impl.Greet) bool {
	return sidesOf(a) == sidesOf(b) && a.LastX == b.LastX && a.LastY == b.LastY &&
		slices.Equal(a.Line, b.Line) && slices.Equal(a.OpenedA, b.OpenedA) && slices.Equal(a.OpenedB, b.OpenedB)
}

func isNoGreet(g impl.Greet) bool {
	return sameGreet(g, impl.Greet{})
}

// The ones from here on are written apart from the program, to be held against it.

// talk is a greeting by places: what is A's at 0, what is B's at 1.
type talk struct {
	sides  [2]side
	last   [2]int
	line   []impl.Hello
	opened [2][]impl.Hello
}

func talkOf(g impl.Greet) talk {
	return talk{
		sides:  sidesOf(g),
		last:   [2]int{g.LastX, g.LastY},
		line:   slices.Clone(g.Line),
		opened: [2][]impl.Hello{slices.Clone(g.OpenedA), slices.Clone(g.OpenedB)},
	}
}

func (k talk) greet() impl.Greet {
	return opened(greet(k.sides[0], k.sides[1], k.last[0], k.last[1], slices.Clone(k.line)...), slices.Clone(k.opened[0]), slices.Clone(k.opened[1]))
}

func (k *talk) say(x impl.Hello) {
	if len(k.line) < 30 {
		k.line = append(k.line, x)
	}
}

func (k *talk) lose(at int) {
	k.line = append(k.line[:at:at], k.line[at+1:]...)
}

func (k talk) hasLetter(at int) bool {
	return 0 <= at && at < len(k.line)
}

func (k talk) after(s impl.GreetStep) (talk, bool) {
	k = talkOf(k.greet())
	switch {
	case s.Kind == 1 && s.K == 0 && k.last[0] < mostGiven:
		k.last[0]++
		k.sides[0] = side{waits, k.last[0], 0}
		k.say(ask(k.last[0]))
	case s.Kind == 2 && k.hasLetter(s.K):
		x := k.line[s.K]
		k.lose(s.K)
		k.reach(x)
	case s.Kind == 3 && k.hasLetter(s.K):
		k.lose(s.K)
	case s.Kind == 4 && k.hasLetter(s.K) && len(k.line) < 30:
		k.say(k.line[s.K])
	case s.Kind == 5 && s.K == 0 && k.sides[1].state == waits:
		k.sides[1] = side{}
	case s.Kind == 6 && (s.K == 0 || s.K == 1):
		k.sides[s.K] = side{}
	default:
		return talk{}, false
	}
	if max(len(k.opened[0]), len(k.opened[1])) > mostOpened {
		return talk{}, false
	}
	return k, true
}

func (k *talk) reach(x impl.Hello) {
	a, b := &k.sides[0], &k.sides[1]
	open := side{opens, x.X, x.Y}
	switch x.Kind {
	case impl.GtAsk:
		if b.state != opens && k.last[1] < mostGiven {
			k.last[1]++
			*b = side{waits, x.X, k.last[1]}
			k.say(both(x.X, k.last[1]))
		}
	case impl.GtBoth:
		if *a == (side{waits, x.X, 0}) {
			*a = open
			k.opened[0] = append(k.opened[0], ack(x.X, x.Y))
		}
		if *a == open {
			k.say(ack(x.X, x.Y))
		}
	case impl.GtAck:
		if *b == (side{waits, x.X, x.Y}) {
			*b = open
			k.opened[1] = append(k.opened[1], x)
		}
	}
}

func played(l []impl.GreetStep) (impl.Greet, []bool) {
	k := talk{last: [2]int{givenBefore, 0}}
	var done []bool
	for _, s := range l {
		next, ok := k.after(s)
		if ok {
			k = next
		}
		done = append(done, ok)
	}
	return k.greet(), done
}

// settledBy is what comes of it where a number more may be given at each end, and each may be opened once more.
func settledBy(g impl.Greet) impl.Greet {
	x, y := g.LastX+1, g.LastY+1
	end := []impl.Hello{ack(x, y)}
	return opened(greet(side{opens, x, y}, side{opens, x, y}, x, y), slices.Concat(g.OpenedA, end), slices.Concat(g.OpenedB, end))
}

// rooms are the least and the greatest that the numbers x and y may be.
type rooms [2][2]int

func (r rooms) have(x, y int) bool {
	return r[0][0] <= x && x <= r[0][1] && r[1][0] <= y && y <= r[1][1]
}

func isGoodTalk(k talk) bool {
	none, x, y := [2]int{}, [2]int{1, k.last[0]}, [2]int{1, k.last[1]}
	if !(rooms{{0, mostGiven}, {0, mostGiven}}).have(k.last[0], k.last[1]) || len(k.line) > 30 {
		return false
	}
	bySide := [2]map[int]rooms{
		{closed: {none, none}, waits: {x, none}, opens: {x, y}},
		{closed: {none, none}, waits: {x, y}, opens: {x, y}},
	}
	byKind := map[int]rooms{1: {x, none}, 2: {x, y}, 3: {x, y}}
	for at, s := range k.sides {
		room, is := bySide[at][s.state]
		if !is || !room.have(s.x, s.y) || len(k.opened[at]) > mostOpened {
			return false
		}
		for _, h := range k.opened[at] {
			if h.Kind != 3 || !byKind[3].have(h.X, h.Y) {
				return false
			}
		}
	}
	for _, h := range k.line {
		if room, is := byKind[h.Kind]; !is || !room.have(h.X, h.Y) {
			return false
		}
	}
	return true
}

// shakenSteps are mixed by kind; most letters that they name are there.
func shakenSteps(many, kind int, next func(upto int) int) []impl.GreetStep {
	mixes := []string{"btlwfc", "bttttttc", "bttttttwwwc", "btttttllwwc", "btttttwwfc", "bttttttwwccc", "bbttttttwfc", "bwwwwwtttttttttttc"}
	mix := mixes[kind%len(mixes)]
	k := talk{last: [2]int{givenBefore, 0}}
	var l []impl.GreetStep
	for range many {
		s := greetStep(1+strings.IndexByte("btlwfc", mix[next(len(mix))]), 0)
		switch {
		case s.Kind == impl.GrClose:
			s.K = next(2)
		case s.Kind == impl.GrTake || s.Kind == impl.GrLose || s.Kind == impl.GrTwice:
			// One that is sent last comes through often enough for both to be open again and again.
			s.K = []int{next(max(1, len(k.line))), max(0, len(k.line)-1)}[next(2)]
		}
		if next(40) == 0 {
			s.K = next(34) - 2
		}
		if after, ok := k.after(s); ok {
			k = after
		}
		l = append(l, s)
	}
	return l
}

func playsToTry(each int) [][]impl.GreetStep {
	next := shaker(151)
	var all [][]impl.GreetStep
	for _, many := range []int{3, 10, 30, 60, impl.MaxGreetSteps - 1, impl.MaxGreetSteps} {
		for k := range each {
			all = append(all, shakenSteps(many, k, next))
		}
	}
	return all
}

func shakenHello(lastX, lastY int, next func(upto int) int) impl.Hello {
	x := lastX - next(min(lastX, 3))
	if lastY == 0 {
		return ask(x)
	}
	y := lastY - next(min(lastY, 3))
	return []impl.Hello{ask(x), both(x, y), ack(x, y)}[next(3)]
}

// shakenGreet has numbers that are few, so that many are alike, and lists that are short, or as long as they may be.
func shakenGreet(kind int, next func(upto int) int) impl.Greet {
	lastX := []int{1 + next(4), givenBefore + next(9), mostGiven - next(3)}[kind%3]
	lastY := []int{next(3), 1 + next(20), mostGiven - next(3)}[kind/3%3]
	k := talk{last: [2]int{lastX, lastY}}
	x := func() int { return lastX - next(min(lastX, 2)) }
	y := func() int { return lastY - next(min(lastY, 2)) }
	if next(4) > 0 {
		k.sides[0] = side{waits, x(), 0}
	}
	if lastY > 0 && next(3) > 0 {
		k.sides[0] = side{opens, x(), y()}
	}
	if lastY > 0 && next(4) > 0 {
		k.sides[1] = side{waits + next(2), x(), y()}
	}
	many := []int{next(5), next(5), 28 + next(3)}[next(3)]
	for range many {
		k.line = append(k.line, shakenHello(lastX, lastY, next))
	}
	for at := range k.opened {
		if lastY > 0 {
			for range []int{next(3), next(9), 298 + next(3)}[next(8)/3] {
				k.opened[at] = append(k.opened[at], ack(x(), y()))
			}
		}
	}
	return k.greet()
}

func greetsToTry(each int) []impl.Greet {
	next := shaker(152)
	all := []impl.Greet{
		impl.NewGreet(), {}, {LastX: mostGiven, LastY: mostGiven}, {LastX: 1, LastY: 1}, {LastY: mostGiven},
		opened(greet(side{opens, 1, 1}, side{opens, 1, 1}, 1, 1, slices.Repeat([]impl.Hello{both(1, 1)}, 30)...), acks(mostOpened), acks(mostOpened)),
		opened(greet(side{waits, 1, 0}, side{waits, 1, 1}, 1, 1, ack(1, 1), both(1, 1), ask(1)), acks(mostOpened), acks(mostOpened)),
		opened(greet(side{waits, 1, 0}, side{waits, 1, 1}, 1, 1, ack(1, 1), both(1, 1), ask(1)), acks(mostOpened-1), acks(mostOpened-1)),
	}
	for k := range each {
		all = append(all, shakenGreet(k, next))
	}
	return all
}

// stepsFor are steps of each kind, and of none, with every K that may be done, and some beyond.
func stepsFor(g impl.Greet) []impl.GreetStep {
	var l []impl.GreetStep
	for kind := -1; kind <= 8; kind++ {
		for k := -2; k <= len(g.Line)+2; k++ {
			l = append(l, greetStep(kind, k))
		}
		l = append(l, greetStep(kind, math.MinInt), greetStep(kind, math.MaxInt))
	}
	for _, far := range farInts {
		l = append(l, greetStep(far, 0), greetStep(far, 1), greetStep(impl.GrTake, far), greetStep(impl.GrClose, far))
	}
	return l
}

func wantStep(t *testing.T, g impl.Greet, s impl.GreetStep, want impl.Greet) {
	t.Helper()
	if got, ok := impl.StepGreet(g, s); !ok || !sameGreet(got, want) {
		t.Errorf("StepGreet(%v, %v): %v, %t, not %v", g, s, got, ok, want)
	}
}

func wantNoGreetStep(t *testing.T, g impl.Greet, s impl.GreetStep) {
	t.Helper()
	if got, ok := impl.StepGreet(g, s); ok || !isNoGreet(got) {
		t.Errorf("StepGreet(%v, %v): %v, %t", g, s, got, ok)
	}
}

// wantStepAs holds a step of a good greeting against what was written apart, looks whether what comes of it is good, and gives it.
func wantStepAs(t *testing.T, g impl.Greet, s impl.GreetStep) (impl.Greet, bool) {
	t.Helper()
	k, can := talkOf(g).after(s)
	got, ok := impl.StepGreet(g, s)
	if ok != can || !sameGreet(got, k.greet()) {
		t.Errorf("StepGreet(%v, %v): %v, %t, not %v, %t", g, s, got, ok, k.greet(), can)
	}
	if ok && !impl.GoodGreet(got) {
		t.Errorf("StepGreet(%v, %v) is not good: %v", g, s, got)
	}
	return got, ok
}

func wantPlay(t *testing.T, l []impl.GreetStep, want impl.Greet, done []bool) {
	t.Helper()
	if got, did, ok := impl.PlayGreet(l); !ok || !sameGreet(got, want) || !slices.Equal(did, done) {
		t.Errorf("PlayGreet(%v): %v, %v, %t, not %v, %v", l, got, did, ok, want, done)
	}
}

func wantNoPlay(t *testing.T, l []impl.GreetStep) {
	t.Helper()
	got, did, ok := impl.PlayGreet(l)
	if ok || len(did) != 0 || !isNoGreet(got) {
		t.Errorf("PlayGreet of %d steps: %v, %v, %t", len(l), got, did, ok)
	}
}

func wantSettled(t *testing.T, g, want impl.Greet) {
	t.Helper()
	if got, ok := impl.SettleGreet(g); !ok || !sameGreet(got, want) {
		t.Errorf("SettleGreet(%v): %v, %t, not %v", g, got, ok, want)
	}
}

func wantNotSettled(t *testing.T, g impl.Greet) {
	t.Helper()
	if got, ok := impl.SettleGreet(g); ok || !isNoGreet(got) {
		t.Errorf("SettleGreet(%v): %v, %t", g, got, ok)
	}
}

func wantBothOpen(t *testing.T, g impl.Greet, want bool) {
	t.Helper()
	if is, ok := impl.BothOpen(g); is != want || !ok {
		t.Errorf("BothOpen(%v): %t, %t, not %t", g, is, ok, want)
	}
}

func wantHas(t *testing.T, l []impl.Hello, x impl.Hello, want bool) {
	t.Helper()
	if has, ok := impl.HasHello(l, x); has != want || !ok {
		t.Errorf("HasHello(%v, %v): %t, %t, not %t", l, x, has, ok, want)
	}
}

// wantNoGreeting holds all that takes a greeting to its zero answer.
func wantNoGreeting(t *testing.T, g impl.Greet) {
	t.Helper()
	if impl.GoodGreet(g) {
		t.Errorf("GoodGreet(%v)", g)
	}
	if is, ok := impl.BothOpen(g); is || ok {
		t.Errorf("BothOpen(%v): %t, %t", g, is, ok)
	}
	wantNotSettled(t, g)
	for kind := range 8 {
		for k := range 3 {
			wantNoGreetStep(t, g, greetStep(kind, k))
		}
	}
}

func TestLimitsOfGreetings(t *testing.T) {
	if impl.MaxLine != 30 || impl.MaxGreetSteps != 120 {
		t.Error(impl.MaxLine, impl.MaxGreetSteps)
	}
	if impl.GtAsk != 1 || impl.GtBoth != 2 || impl.GtAck != 3 {
		t.Error(impl.GtAsk, impl.GtBoth, impl.GtAck)
	}
	steps := []int{impl.GrBegin, impl.GrTake, impl.GrLose, impl.GrTwice, impl.GrForget, impl.GrClose}
	if !slices.Equal(steps, fromBelow(1, 7)) {
		t.Error(steps)
	}
}

func TestNewGreetings(t *testing.T) {
	for range 3 {
		g := impl.NewGreet()
		if !sameGreet(g, impl.Greet{LastX: 100}) || !impl.GoodGreet(g) {
			t.Error("NewGreet:", g)
		}
		wantBothOpen(t, g, false)
		wantPlay(t, nil, g, nil)
		wantPlay(t, []impl.GreetStep{}, impl.Greet{LastX: 100}, []bool{})
	}
}

func TestGreetingsPlayedByHand(t *testing.T) {
	shut := side{}
	one := []impl.Hello{ack(101, 1)}
	for _, x := range []struct {
		script, undone string
		want           impl.Greet
	}{
		{"b", "", greet(side{waits, 101, 0}, shut, 101, 0, ask(101))},
		{"b t0", "", greet(side{waits, 101, 0}, side{waits, 101, 1}, 101, 1, both(101, 1))},
		{"b t0 t0", "", opened(greet(side{opens, 101, 1}, side{waits, 101, 1}, 101, 1, ack(101, 1)), one, nil)},
		{"b t0 t0 t0", "", opened(greet(side{opens, 101, 1}, side{opens, 101, 1}, 101, 1), one, one)},
		{"b t0 t0 t0 t0", "4", opened(greet(side{opens, 101, 1}, side{opens, 101, 1}, 101, 1), one, one)},
		{"t0 l0 w0 f", "0123", impl.NewGreet()},
		{"b1 t1 b t1 l1 w1 f1", "0 1 3 4 5 6", greet(side{waits, 101, 0}, shut, 101, 0, ask(101))},
		// An ask comes while B is waiting: what A opens with is no more what B waits for.
		{"b w0 t0 t0", "", greet(side{waits, 101, 0}, side{waits, 101, 2}, 101, 2, both(101, 1), both(101, 2))},
		{"b w0 t0 t0 t0", "", opened(greet(side{opens, 101, 1}, side{waits, 101, 2}, 101, 2, both(101, 2), ack(101, 1)), one, nil)},
		{"b w0 t0 t0 t0 t0 t0", "", opened(greet(side{opens, 101, 1}, side{waits, 101, 2}, 101, 2), one, nil)},
		{"b w0 t0 t0 t1 t1", "", opened(greet(side{opens, 101, 2}, side{opens, 101, 2}, 101, 2, both(101, 1)), []impl.Hello{ack(101, 2)}, []impl.Hello{ack(101, 2)})},
		// An ask comes while B is open.
		{"b w0 t1 t1 t1 t0", "", opened(greet(side{opens, 101, 1}, side{opens, 101, 1}, 101, 1), one, one)},
		// A GtBoth comes once more: A is opened once, and says so again, as the first ack may be lost.
		{"b t0 w0 t0 l1 t0 t0", "", opened(greet(side{opens, 101, 1}, side{opens, 101, 1}, 101, 1), one, one)},
		{"b t0 w0 t0 t1 t0", "", opened(greet(side{opens, 101, 1}, side{opens, 101, 1}, 101, 1, ack(101, 1)), one, one)},
		{"b t0 w0 t0 t1 t0 t0", "", opened(greet(side{opens, 101, 1}, side{opens, 101, 1}, 101, 1), one, one)},
		// A GtBoth comes with an X that is no longer A's.
		{"b b t0 t0 t0", "", greet(side{waits, 102, 0}, side{waits, 102, 2}, 102, 2, both(102, 2))},
		{"b b t0 t0 t0 t0 t0 t0", "7", opened(greet(side{opens, 102, 2}, side{opens, 102, 2}, 102, 2), []impl.Hello{ack(102, 2)}, []impl.Hello{ack(102, 2)})},
		{"b t0 t0 t0 b t0", "", opened(greet(side{waits, 102, 0}, side{opens, 101, 1}, 102, 1), one, one)},
		{"b t0 c0 t0", "", greet(shut, side{waits, 101, 1}, 101, 1)},
		// B forgets, and does not come to be open.
		{"b t0 f t0 t0", "", opened(greet(side{opens, 101, 1}, shut, 101, 1), one, nil)},
		{"b t0 f f", "3", greet(side{waits, 101, 0}, shut, 101, 1, both(101, 1))},
		{"b t0 t0 t0 f", "4", opened(greet(side{opens, 101, 1}, side{opens, 101, 1}, 101, 1), one, one)},
		// Old acks come to a B that is closed, and to one that waits for another.
		{"b t0 t0 w0 t0 c1 t0", "", opened(greet(side{opens, 101, 1}, shut, 101, 1), one, one)},
		{"b t0 t0 w0 t0 c1 c0 b t1 t0", "", opened(greet(side{waits, 102, 0}, side{waits, 102, 2}, 102, 2, both(102, 2)), one, one)},
		{"c0 c1 c2 c-1", "23", impl.NewGreet()},
		{"b t0 t0 t0 c0", "", opened(greet(shut, side{opens, 101, 1}, 101, 1), one, one)},
		{"b t0 t0 t0 c1", "", opened(greet(side{opens, 101, 1}, shut, 101, 1), one, one)},
		{"b l0 l0", "2", greet(side{waits, 101, 0}, shut, 101, 0)},
	} {
		l := stepsIn(x.script)
		done := make([]bool, len(l))
		for k := range done {
			done[k] = !strings.ContainsRune(x.undone, rune('0'+k))
		}
		wantPlay(t, l, x.want, done)
	}
}

func TestBeginningsByHand(t *testing.T) {
	full := slices.Repeat([]impl.Hello{ask(1)}, impl.MaxLine)
	b := side{opens, 4, 2}
	for _, a := range []side{{}, {waits, 7, 0}, {opens, 7, 3}, {opens, 4, 2}} {
		wantStep(t, greet(a, b, 8, 3), greetStep(impl.GrBegin, 0), greet(side{waits, 9, 0}, b, 9, 3, ask(9)))
		wantStep(t, greet(a, b, 8, 3, ack(1, 1), ask(2)), greetStep(impl.GrBegin, 0), greet(side{waits, 9, 0}, b, 9, 3, ack(1, 1), ask(2), ask(9)))
		wantStep(t, greet(a, b, 8, 3, full[:29]...), greetStep(impl.GrBegin, 0), greet(side{waits, 9, 0}, b, 9, 3, append(full[:29:29], ask(9))...))
		// No room for the letter: it is begun all the same.
		wantStep(t, greet(a, b, 8, 3, full...), greetStep(impl.GrBegin, 0), greet(side{waits, 9, 0}, b, 9, 3, full...))
		wantStep(t, greet(a, b, 999, 3), greetStep(impl.GrBegin, 0), greet(side{waits, 1000, 0}, b, 1000, 3, ask(1000)))
		wantNoGreetStep(t, greet(a, b, 1000, 3), greetStep(impl.GrBegin, 0))
		for _, k := range append([]int{-1, 1, 2}, farInts...) {
			wantNoGreetStep(t, greet(a, b, 8, 3, ask(1), ask(2), ask(3)), greetStep(impl.GrBegin, k))
			wantNoGreetStep(t, greet(a, side{waits, 4, 2}, 8, 3, ask(1), ask(2), ask(3)), greetStep(impl.GrForget, k))
		}
	}
	wantStep(t, impl.Greet{}, greetStep(impl.GrBegin, 0), greet(side{waits, 1, 0}, side{}, 1, 0, ask(1)))
}

func TestAsksTakenByHand(t *testing.T) {
	a := side{opens, 7, 3}
	take := greetStep(impl.GrTake, 0)
	for _, b := range []side{{}, {waits, 7, 3}, {waits, 5, 1}, {waits, 6, 3}} {
		wantStep(t, greet(a, b, 8, 3, ask(5)), take, greet(a, side{waits, 5, 4}, 8, 4, both(5, 4)))
		wantStep(t, greet(a, b, 8, 3, ask(5), ack(1, 2)), take, greet(a, side{waits, 5, 4}, 8, 4, ack(1, 2), both(5, 4)))
		wantStep(t, greet(a, b, 8, 3, ack(1, 2), ask(5), ask(6)), greetStep(impl.GrTake, 1), greet(a, side{waits, 5, 4}, 8, 4, ack(1, 2), ask(6), both(5, 4)))
		wantStep(t, greet(a, b, 8, 999, ask(8)), take, greet(a, side{waits, 8, 1000}, 8, 1000, both(8, 1000)))
		// It is just gone where no number is left.
		wantStep(t, greet(a, b, 8, 1000, ask(5), ask(6)), take, greet(a, b, 8, 1000, ask(6)))
		// There is room where the letter was.
		full := slices.Repeat([]impl.Hello{ask(1)}, impl.MaxLine)
		wantStep(t, greet(a, b, 8, 3, full...), greetStep(impl.GrTake, 29), greet(a, side{waits, 1, 4}, 8, 4, append(full[:29:29], both(1, 4))...))
	}
	wantStep(t, greet(side{waits, 5, 0}, side{}, 8, 0, ask(5)), take, greet(side{waits, 5, 0}, side{waits, 5, 1}, 8, 1, both(5, 1)))
	for _, b := range []side{{opens, 7, 3}, {opens, 5, 1}} {
		wantStep(t, greet(a, b, 8, 3, ask(5)), take, greet(a, b, 8, 3))
		wantStep(t, greet(a, b, 8, 1000, ask(8)), take, greet(a, b, 8, 1000))
	}
}

func TestBothsTakenByHand(t *testing.T) {
	take := greetStep(impl.GrTake, 0)
	for _, b := range []side{{}, {waits, 7, 2}, {opens, 5, 3}} {
		was := []impl.Hello{ack(2, 1)}
		with := []impl.Hello{ack(2, 1), ack(7, 2)}
		from := func(a side, line ...impl.Hello) impl.Greet { return opened(greet(a, b, 8, 3, line...), was, was) }
		wantStep(t, from(side{waits, 7, 0}, both(7, 2)), take, opened(greet(side{opens, 7, 2}, b, 8, 3, ack(7, 2)), with, was))
		wantStep(t, from(side{waits, 7, 0}, both(7, 2), ask(1)), take, opened(greet(side{opens, 7, 2}, b, 8, 3, ask(1), ack(7, 2)), with, was))
		wantStep(t, from(side{waits, 7, 0}, ask(1), both(7, 2)), greetStep(impl.GrTake, 1), opened(greet(side{opens, 7, 2}, b, 8, 3, ask(1), ack(7, 2)), with, was))
		for _, x := range []int{1, 6, 8} {
			wantStep(t, from(side{waits, 7, 0}, both(x, 2)), take, from(side{waits, 7, 0}))
			wantStep(t, from(side{opens, 7, 2}, both(x, 2)), take, from(side{opens, 7, 2}))
		}
		wantStep(t, from(side{}, both(7, 2), ask(1)), take, from(side{}, ask(1)))
		// Open with just both: it says so once more, but did not come to be open once more.
		wantStep(t, from(side{opens, 7, 2}, both(7, 2)), take, from(side{opens, 7, 2}, ack(7, 2)))
		wantStep(t, from(side{opens, 7, 2}, both(7, 2), ask(1)), take, from(side{opens, 7, 2}, ask(1), ack(7, 2)))
		for _, y := range []int{1, 3} {
			wantStep(t, from(side{opens, 7, 2}, both(7, y)), take, from(side{opens, 7, 2}))
		}
		full := slices.Repeat([]impl.Hello{both(7, 2)}, impl.MaxLine)
		wantStep(t, from(side{opens, 7, 2}, full...), greetStep(impl.GrTake, 29), from(side{opens, 7, 2}, append(full[:29:29], ack(7, 2))...))
	}
}

func TestAcksTakenByHand(t *testing.T) {
	take := greetStep(impl.GrTake, 0)
	for _, a := range []side{{}, {waits, 7, 0}, {opens, 7, 2}, {opens, 5, 3}} {
		was := []impl.Hello{ack(2, 1)}
		from := func(b side, line ...impl.Hello) impl.Greet { return opened(greet(a, b, 8, 3, line...), was, was) }
		wantStep(t, from(side{waits, 7, 2}, ack(7, 2)), take, opened(greet(a, side{opens, 7, 2}, 8, 3), was, []impl.Hello{ack(2, 1), ack(7, 2)}))
		wantStep(t, from(side{waits, 7, 2}, ask(1), ack(7, 2), ask(3)), greetStep(impl.GrTake, 1), opened(greet(a, side{opens, 7, 2}, 8, 3, ask(1), ask(3)), was, []impl.Hello{ack(2, 1), ack(7, 2)}))
		for _, x := range []int{1, 6, 8} {
			wantStep(t, from(side{waits, 7, 2}, ack(x, 2)), take, from(side{waits, 7, 2}))
		}
		for _, y := range []int{1, 3} {
			wantStep(t, from(side{waits, 7, 2}, ack(7, y)), take, from(side{waits, 7, 2}))
		}
		wantStep(t, from(side{waits, 2, 3}, ack(3, 2)), take, from(side{waits, 2, 3}))
		wantStep(t, from(side{}, ack(7, 2)), take, from(side{}))
		wantStep(t, from(side{opens, 7, 2}, ack(7, 2)), take, from(side{opens, 7, 2}))
		wantStep(t, from(side{opens, 7, 2}, ack(6, 2), ask(3)), take, from(side{opens, 7, 2}, ask(3)))
	}
}

func TestLettersLostAndDoubledByHand(t *testing.T) {
	a, b := side{waits, 7, 0}, side{waits, 7, 2}
	line := []impl.Hello{ask(7), both(7, 2), ack(7, 2), both(6, 1)}
	g := greet(a, b, 8, 3, line...)
	for k := range line {
		left := slices.Delete(slices.Clone(line), k, k+1)
		wantStep(t, g, greetStep(impl.GrLose, k), greet(a, b, 8, 3, left...))
		wantStep(t, g, greetStep(impl.GrTwice, k), greet(a, b, 8, 3, append(slices.Clone(line), line[k])...))
	}
	for _, k := range append([]int{-1, 4, 5, 29, 30}, farInts...) {
		for _, kind := range []int{impl.GrTake, impl.GrLose, impl.GrTwice} {
			wantNoGreetStep(t, g, greetStep(kind, k))
			wantNoGreetStep(t, greet(a, b, 8, 3), greetStep(kind, k))
			wantNoGreetStep(t, greet(a, b, 8, 3), greetStep(kind, 0))
		}
	}
	full := append(slices.Repeat([]impl.Hello{ask(1)}, 28), both(7, 2), ack(7, 2))
	wantStep(t, greet(a, b, 8, 3, full[1:]...), greetStep(impl.GrTwice, 27), greet(a, b, 8, 3, append(full[1:30:30], both(7, 2))...))
	for k := range full {
		// There is no room.
		wantNoGreetStep(t, greet(a, b, 8, 3, full...), greetStep(impl.GrTwice, k))
		wantStep(t, greet(a, b, 8, 3, full...), greetStep(impl.GrLose, k), greet(a, b, 8, 3, slices.Delete(slices.Clone(full), k, k+1)...))
	}
}

func TestEndsForgotAndClosedByHand(t *testing.T) {
	for _, a := range []side{{}, {waits, 7, 0}, {opens, 7, 2}} {
		for _, b := range []side{{}, {waits, 7, 2}, {opens, 7, 2}, {waits, 6, 3}} {
			line := []impl.Hello{ask(7), both(7, 2), ack(7, 2)}
			from := func(a, b side) impl.Greet {
				return opened(greet(a, b, 8, 3, line...), acks(2), acks(1))
			}
			if b.state == waits {
				wantStep(t, from(a, b), greetStep(impl.GrForget, 0), from(a, side{}))
			} else {
				wantNoGreetStep(t, from(a, b), greetStep(impl.GrForget, 0))
			}
			// One that is closed already as well.
			wantStep(t, from(a, b), greetStep(impl.GrClose, 0), from(side{}, b))
			wantStep(t, from(a, b), greetStep(impl.GrClose, 1), from(a, side{}))
			for _, k := range append([]int{-1, 2, 3}, farInts...) {
				wantNoGreetStep(t, from(a, b), greetStep(impl.GrClose, k))
			}
			for _, kind := range append([]int{0, 7, 8, -1}, farInts...) {
				for k := range 3 {
					wantNoGreetStep(t, from(a, b), greetStep(kind, k))
				}
			}
		}
	}
}

func TestOpenedListsAreFull(t *testing.T) {
	all, less := acks(mostOpened), acks(mostOpened-1)
	take := greetStep(impl.GrTake, 0)
	a, b := side{waits, 7, 0}, side{waits, 7, 2}
	open := side{opens, 7, 2}
	wantStep(t, opened(greet(a, b, 8, 3, both(7, 2)), less, all), take, opened(greet(open, b, 8, 3, ack(7, 2)), append(acks(299), ack(7, 2)), all))
	wantStep(t, opened(greet(a, b, 8, 3, ack(7, 2)), all, less), take, opened(greet(a, open, 8, 3), all, append(acks(299), ack(7, 2))))
	// What would have 301 is refused, but only where an end would come to be open.
	wantNoGreetStep(t, opened(greet(a, b, 8, 3, both(7, 2)), all, nil), take)
	wantNoGreetStep(t, opened(greet(a, b, 8, 3, ack(7, 2)), nil, all), take)
	wantStep(t, opened(greet(a, b, 8, 3, both(6, 2)), all, all), take, opened(greet(a, b, 8, 3), all, all))
	wantStep(t, opened(greet(a, b, 8, 3, ack(7, 1)), all, all), take, opened(greet(a, b, 8, 3), all, all))
	wantStep(t, opened(greet(open, b, 8, 3, both(7, 2)), all, all), take, opened(greet(open, b, 8, 3, ack(7, 2)), all, all))
	for _, lists := range [][2][]impl.Hello{{all, nil}, {nil, all}, {all, all}} {
		wantNotSettled(t, opened(greet(a, b, 8, 3), lists[0], lists[1]))
	}
}

func TestStepsOfGoodGreetings(t *testing.T) {
	done := [7]int{}
	came := [2]int{}
	for _, g := range greetsToTry(500) {
		if !impl.GoodGreet(g) {
			t.Errorf("GoodGreet(%v)", g)
		}
		for _, s := range stepsFor(g) {
			if got, ok := wantStepAs(t, g, s); ok {
				done[s.Kind]++
				came[0] += len(got.OpenedA) - len(g.OpenedA)
				came[1] += len(got.OpenedB) - len(g.OpenedB)
			}
		}
	}
	for kind := 1; kind <= 6; kind++ {
		if done[kind] < 100 {
			t.Error("too few steps of kind", kind, "are done:", done[kind])
		}
	}
	if min(came[0], came[1]) < 50 {
		t.Error("too few ends come to be open:", came)
	}
}

// wantTwiceNever looks at what both ends have come to be open with so far.
func wantTwiceNever(t *testing.T, g impl.Greet) {
	t.Helper()
	for _, l := range [][]impl.Hello{g.OpenedA, g.OpenedB} {
		for k, x := range l {
			if has, ok := impl.HasHello(l[:k], x); has || !ok {
				t.Errorf("%v is there twice: %v", x, g)
			}
		}
	}
	for _, x := range g.OpenedB {
		if has, ok := impl.HasHello(g.OpenedA, x); !has || !ok {
			t.Errorf("B came to be open with %v, and A did not: %v", x, g)
		}
	}
}

// TestAllShortGreetings goes through all that can be reached in few steps.
func TestAllShortGreetings(t *testing.T) {
	reached := []impl.Greet{impl.NewGreet()}
	seen := map[string]bool{}
	byB := 0
	for range 7 {
		var next []impl.Greet
		for _, g := range reached {
			for kind := range 8 {
				for k := -1; k <= max(2, len(g.Line)); k++ {
					after, ok := wantStepAs(t, g, greetStep(kind, k))
					if name := fmt.Sprint(after); ok && !seen[name] {
						seen[name] = true
						next = append(next, after)
						wantTwiceNever(t, after)
						byB += len(after.OpenedB)
					}
				}
			}
		}
		reached = next
	}
	if len(seen) < 3000 || byB < 10 {
		t.Error("too few greetings:", len(seen), byB)
	}
}

// wantGivenOnce looks at the numbers: none goes back, and each new one is one more than the last.
func wantGivenOnce(t *testing.T, g, next impl.Greet, s impl.GreetStep) {
	t.Helper()
	newX, newY := next.LastX-g.LastX, next.LastY-g.LastY
	begun := s.Kind == impl.GrBegin
	if newX < 0 || newX > 1 || newY < 0 || newY > 1 || begun != (newX == 1) {
		t.Errorf("%v after %v: the last numbers go from %d, %d to %d, %d", s, g, g.LastX, g.LastY, next.LastX, next.LastY)
	}
	if begun && (next.X != next.LastX || next.StateA != waits) {
		t.Errorf("%v after %v: A has %d, and %d was given", s, g, next.X, next.LastX)
	}
	if !begun && next.X != g.X && next.X != 0 {
		t.Errorf("%v after %v: A has %d, and was given none", s, g, next.X)
	}
	if newY == 1 && (next.Y != next.LastY || next.StateB != waits) {
		t.Errorf("%v after %v: B has %d, and %d was given", s, g, next.Y, next.LastY)
	}
	if newY == 0 && next.Y != g.Y && next.Y != 0 {
		t.Errorf("%v after %v: B has %d, and was given none", s, g, next.Y)
	}
}

// newOne gives what a list has more than before, which is one at most.
func newOne(t *testing.T, were, are []impl.Hello) (impl.Hello, bool) {
	t.Helper()
	if len(are) < len(were) || len(are) > len(were)+1 || !slices.Equal(are[:len(were)], were) {
		t.Errorf("%v has become %v", were, are)
		return impl.Hello{}, false
	}
	if len(are) == len(were) {
		return impl.Hello{}, false
	}
	return are[len(were)], true
}

// wantTomlinson plays step by step, and gives how often A and B came to be open.
func wantTomlinson(t *testing.T, l []impl.GreetStep) (int, int) {
	t.Helper()
	g := impl.NewGreet()
	var done []bool
	hadByB := map[side]bool{}
	for _, s := range l {
		next, ok := impl.StepGreet(g, s)
		done = append(done, ok)
		if !ok {
			wantNoGreetStep(t, g, s)
			continue
		}
		if !impl.GoodGreet(next) {
			t.Errorf("StepGreet(%v, %v) is not good: %v", g, s, next)
		}
		wantGivenOnce(t, g, next, s)
		if x, is := newOne(t, g.OpenedA, next.OpenedA); is {
			if next.StateA != opens || x != ack(next.X, next.OfY) || slices.Contains(g.OpenedA, x) || !hadByB[side{waits, x.X, x.Y}] {
				t.Errorf("A came to be open with %v after %v: %v", x, g, next)
			}
		}
		if x, is := newOne(t, g.OpenedB, next.OpenedB); is {
			if next.StateB != opens || x != ack(next.OfX, next.Y) || slices.Contains(g.OpenedB, x) || !slices.Contains(g.OpenedA, x) {
				t.Errorf("B came to be open with %v after %v: %v", x, g, next)
			}
		}
		hadByB[side{next.StateB, next.OfX, next.Y}] = true
		g = next
	}
	wantPlay(t, l, g, done)
	wantTwiceNever(t, g)
	return len(g.OpenedA), len(g.OpenedB)
}

func TestWhoeverIsOpenHasOpenedWithTheOther(t *testing.T) {
	byA, byB, apart, many := 0, 0, 0, 0
	for _, l := range playsToTry(400) {
		a, b := wantTomlinson(t, l)
		want, done := played(l)
		wantPlay(t, l, want, done)
		wantBothOpen(t, want, want.StateA == opens && sidesOf(want)[0] == sidesOf(want)[1])
		byA += a
		byB += b
		if a > b {
			apart++
		}
		if b > 2 {
			many++
		}
	}
	if byA < 3000 || byB < 2000 || apart < 300 || many < 200 {
		t.Error("too few ends come to be open:", byA, byB, apart, many)
	}
}

// TestOldLettersComeLate keeps many letters of all kinds back, puts them behind all once more, and lets them come in any order.
func TestOldLettersComeLate(t *testing.T) {
	next := shaker(153)
	old := 0
	for range 600 {
		l := stepsIn("b w0 t0 w0 w1 t0 t0")
		g, _ := played(l)
		k := talkOf(g)
		for len(l) < impl.MaxGreetSteps {
			at := next(max(1, len(k.line)))
			switch pick := next(20); {
			case len(k.line) == 0 || pick == 0:
				l = append(l, greetStep(impl.GrBegin, 0))
			case pick == 1:
				l = append(l, greetStep(impl.GrClose, next(2)))
			case pick == 2:
				l = append(l, greetStep(impl.GrForget, 0))
			case pick < 5 && len(k.line) > 20:
				l = append(l, greetStep(impl.GrLose, at))
			case pick < 11:
				l = append(l, greetStep(impl.GrTwice, at))
			default:
				l = append(l, greetStep(impl.GrTake, at))
				if x := k.line[at]; x.Kind == impl.GtAck && k.sides[1].state == waits && (x.X != k.sides[1].x || x.Y != k.sides[1].y) {
					old++
				}
			}
			if after, ok := k.after(l[len(l)-1]); ok {
				k = after
			}
		}
		wantTomlinson(t, l)
	}
	if old < 500 {
		t.Error("too few old acks come to a B that is waiting:", old)
	}
}

func TestAsManyStepsAsCanBe(t *testing.T) {
	begins := slices.Repeat(stepsIn("b"), impl.MaxGreetSteps)
	var line []impl.Hello
	for x := 101; x <= 130; x++ {
		line = append(line, ask(x))
	}
	all := slices.Repeat([]bool{true}, impl.MaxGreetSteps)
	wantPlay(t, begins, greet(side{waits, 220, 0}, side{}, 220, 0, line...), all)
	wantPlay(t, begins[:119], greet(side{waits, 219, 0}, side{}, 219, 0, line...), all[:119])
	var times []impl.Hello
	for n := 1; n <= 24; n++ {
		times = append(times, ack(100+n, n))
	}
	wantPlay(t, slices.Repeat(stepsIn("b t0 t0 t0 c1"), 24), opened(greet(side{opens, 124, 24}, side{}, 124, 24), times, times), all)
	twice := append(stepsIn("b"), slices.Repeat(stepsIn("w0"), 119)...)
	wantPlay(t, twice, greet(side{waits, 101, 0}, side{}, 101, 0, slices.Repeat([]impl.Hello{ask(101)}, 30)...), append(slices.Repeat([]bool{true}, 30), make([]bool, 90)...))
	wrong := slices.Repeat([]impl.GreetStep{greetStep(0, 0), greetStep(7, 0), greetStep(math.MinInt, 1), greetStep(impl.GrTake, math.MaxInt), {}, greetStep(impl.GrClose, 2)}, 20)
	wantPlay(t, wrong, impl.NewGreet(), make([]bool, 120))
	for _, many := range []int{impl.MaxGreetSteps + 1, impl.MaxGreetSteps + 2, 1000, 100000} {
		wantNoPlay(t, slices.Repeat(stepsIn("b"), many))
		wantNoPlay(t, slices.Repeat(stepsIn("c0"), many))
		wantNoPlay(t, make([]impl.GreetStep, many))
	}
	for _, far := range farInts {
		for kind := range 8 {
			wantPlay(t, []impl.GreetStep{greetStep(kind, far), greetStep(far, kind), greetStep(far, far)}, impl.NewGreet(), make([]bool, 3))
		}
	}
}

func TestBothOpenByHand(t *testing.T) {
	for _, x := range []struct {
		a, b side
		want bool
	}{
		{side{opens, 7, 2}, side{opens, 7, 2}, true},
		{side{opens, 1, 1}, side{opens, 1, 1}, true},
		{side{opens, 2, 2}, side{opens, 2, 2}, true},
		{side{opens, 7, 2}, side{opens, 6, 2}, false},
		{side{opens, 7, 2}, side{opens, 7, 3}, false},
		{side{opens, 2, 3}, side{opens, 3, 2}, false},
		{side{opens, 7, 2}, side{waits, 7, 2}, false},
		{side{opens, 7, 2}, side{}, false},
		{side{waits, 7, 0}, side{opens, 7, 2}, false},
		{side{waits, 7, 0}, side{waits, 7, 2}, false},
		{side{}, side{opens, 7, 2}, false},
		{side{}, side{}, false},
	} {
		wantBothOpen(t, greet(x.a, x.b, 8, 3), x.want)
		wantBothOpen(t, opened(greet(x.a, x.b, 8, 3, ask(1), both(1, 1)), acks(3), nil), x.want)
	}
	yes := 0
	for _, g := range greetsToTry(600) {
		want := g.StateA == opens && sidesOf(g)[0] == sidesOf(g)[1]
		wantBothOpen(t, g, want)
		if want {
			yes++
		}
	}
	if yes < 20 {
		t.Error("too few are both open:", yes)
	}
}

func TestGreetingsAreSettled(t *testing.T) {
	settled, refused := 0, 0
	all := greetsToTry(900)
	for _, l := range playsToTry(40) {
		g, _ := played(l)
		all = append(all, g)
	}
	for _, g := range all {
		if g.LastX == mostGiven || g.LastY == mostGiven || len(g.OpenedA) == mostOpened || len(g.OpenedB) == mostOpened {
			wantNotSettled(t, g)
			refused++
			continue
		}
		wantSettled(t, g, settledBy(g))
		wantBothOpen(t, settledBy(g), true)
		settled++
	}
	if settled < 300 || refused < 200 {
		t.Error("too few are settled, or refused:", settled, refused)
	}
	for _, g := range []impl.Greet{{LastX: 999, LastY: 999}, {LastX: 999}, {LastY: 999}, {}} {
		wantSettled(t, g, settledBy(g))
		wantBothOpen(t, settledBy(g), true)
	}
	for _, g := range []impl.Greet{{LastX: 1000}, {LastY: 1000}, {LastX: 1000, LastY: 1000}} {
		wantNotSettled(t, g)
	}
}

func TestLettersInLists(t *testing.T) {
	for _, x := range []impl.Hello{ask(3), both(3, 4), ack(3, 4), {}, {Kind: 4, X: -1, Y: 1 << 40}, {Kind: math.MinInt, X: math.MaxInt, Y: math.MinInt}} {
		for _, l := range [][]impl.Hello{nil, {}, withHidden([]impl.Hello{}, x)} {
			wantHas(t, l, x, false)
		}
		wantHas(t, []impl.Hello{x}, x, true)
		// Alike but for one.
		for _, other := range []impl.Hello{{Kind: x.Kind + 1, X: x.X, Y: x.Y}, {Kind: x.Kind, X: x.X - 1, Y: x.Y}, {Kind: x.Kind, X: x.X, Y: x.Y + 1}, {Kind: x.Kind, X: x.X + 1, Y: x.Y - 1}} {
			for _, many := range []int{1, 2, 7, 299, 300} {
				l := slices.Repeat([]impl.Hello{other}, many)
				wantHas(t, l, x, false)
				wantHas(t, l, other, true)
				for _, at := range []int{0, many / 2, many - 1} {
					with := slices.Clone(l)
					with[at] = x
					wantHas(t, with, x, true)
					wantHas(t, with[:at], x, false)
				}
			}
		}
		for _, many := range []int{301, 302, 1000, 100000} {
			if has, ok := impl.HasHello(slices.Repeat([]impl.Hello{x}, many), x); has || ok {
				t.Errorf("HasHello of %d: %t, %t", many, has, ok)
			}
			if has, ok := impl.HasHello(make([]impl.Hello, many), x); has || ok {
				t.Errorf("HasHello of %d: %t, %t", many, has, ok)
			}
		}
	}
}

// wrongFor are just beyond 1 up to last, and far beyond.
func wrongFor(last int) []int {
	return append([]int{-1, 0, last + 1, last + 2, -last}, farInts...)
}

func wrongHellos(lastX, lastY int) []impl.Hello {
	var l []impl.Hello
	for _, kind := range append([]int{-1, 0, 4, 5}, farInts...) {
		l = append(l, impl.Hello{Kind: kind, X: 1, Y: 1}, impl.Hello{Kind: kind, X: 1}, impl.Hello{Kind: kind})
	}
	for _, x := range wrongFor(lastX) {
		l = append(l, ask(x), both(x, 1), ack(x, 1), both(x, lastY))
	}
	for _, y := range wrongFor(lastY) {
		l = append(l, both(1, y), ack(1, y), both(lastX, y), ack(lastX, y), both(y, y))
	}
	for _, y := range append([]int{1, lastY, -1}, farInts...) {
		l = append(l, impl.Hello{Kind: impl.GtAsk, X: 1, Y: y})
	}
	return l
}

func greetsWithWrongEnds() []impl.Greet {
	var all []impl.Greet
	put := func(a, b side) {
		all = append(all, greet(a, b, 8, 3), opened(greet(a, b, 8, 3, ask(1), both(2, 2)), acks(1), acks(2)))
	}
	good := side{opens, 7, 2}
	for _, state := range append([]int{-1, 3, 4}, farInts...) {
		for _, s := range []side{{state, 0, 0}, {state, 7, 0}, {state, 7, 2}} {
			put(s, good)
			put(s, side{})
			put(good, s)
			put(side{}, s)
			put(s, s)
		}
	}
	for _, x := range wrongFor(8) {
		put(side{waits, x, 0}, good)
		put(side{opens, x, 2}, good)
		put(good, side{waits, x, 2})
		put(good, side{opens, x, 2})
		put(side{opens, x, 2}, side{opens, x, 2})
	}
	for _, y := range wrongFor(3) {
		put(side{opens, 7, y}, good)
		put(good, side{waits, 7, y})
		put(good, side{opens, 7, y})
		put(side{opens, 7, y}, side{opens, 7, y})
	}
	for _, n := range append([]int{1, 2, 3, -1}, farInts...) {
		// What must be 0 is not.
		put(side{closed, n, 0}, good)
		put(side{closed, 0, n}, good)
		put(side{closed, n, n}, good)
		put(side{waits, 7, n}, good)
		put(good, side{closed, n, 0})
		put(good, side{closed, 0, n})
	}
	return all
}

func greetsWithWrongLasts() []impl.Greet {
	var all []impl.Greet
	for _, last := range append([]int{-1, -2, 1001, 1002}, farInts...) {
		if last != mostGiven {
			all = append(all, impl.Greet{LastX: last}, impl.Greet{LastX: last, LastY: 3}, impl.Greet{LastX: last, LastY: last},
				greet(side{waits, 1, 0}, side{}, last, 1), greet(side{}, side{opens, 1, 1}, last, 1, ask(1)))
			all = append(all, impl.Greet{LastY: last}, impl.Greet{LastX: 100, LastY: last},
				greet(side{waits, 1, 0}, side{}, 1, last), greet(side{}, side{opens, 1, 1}, 1, last, ask(1)))
		}
	}
	// Nothing was given yet.
	return append(all,
		greet(side{waits, 1, 0}, side{}, 0, 0), greet(side{waits, 0, 0}, side{}, 0, 0), greet(side{opens, 1, 0}, side{}, 1, 0), greet(side{opens, 1, 1}, side{}, 1, 0),
		greet(side{}, side{waits, 1, 0}, 1, 0), greet(side{}, side{waits, 0, 0}, 0, 0), greet(side{}, side{opens, 0, 0}, 5, 5), greet(side{opens, 0, 0}, side{opens, 0, 0}, 0, 0),
		impl.Greet{Line: []impl.Hello{ask(1)}}, impl.Greet{Line: []impl.Hello{ask(0)}}, impl.Greet{LastX: 1, Line: []impl.Hello{both(1, 0)}}, impl.Greet{LastX: 1, OpenedA: acks(1)}, impl.Greet{LastY: 1, OpenedB: acks(1)})
}

func greetsWithWrongLists() []impl.Greet {
	var all []impl.Greet
	g := greet(side{opens, 7, 2}, side{waits, 7, 2}, 8, 3)
	for _, h := range wrongHellos(8, 3) {
		all = append(all, withLine(g, h), withLine(g, h, ask(1)), withLine(g, ask(1), h), withLine(g, both(8, 3), h, ack(1, 1)))
		all = append(all, withLine(g, append(slices.Repeat([]impl.Hello{ask(1)}, 29), h)...))
	}
	for _, h := range append(wrongHellos(8, 3), ask(1), both(1, 1), both(8, 3), ask(8)) {
		for _, l := range [][]impl.Hello{{h}, {h, ack(1, 1)}, {ack(1, 1), h}, {ack(8, 3), h, ack(2, 2)}, append(acks(299), h), append([]impl.Hello{h}, acks(299)...)} {
			all = append(all, opened(g, l, nil), opened(g, nil, l), opened(g, l, l), opened(g, acks(2), l))
		}
	}
	for _, many := range []int{301, 302, 1000} {
		all = append(all, opened(g, acks(many), nil), opened(g, nil, acks(many)), opened(g, acks(many), acks(many)), opened(g, make([]impl.Hello, many), nil))
	}
	for _, many := range []int{31, 32, 60, 1000} {
		all = append(all, withLine(g, slices.Repeat([]impl.Hello{ask(1)}, many)...), withLine(g, make([]impl.Hello, many)...), withLine(g, slices.Repeat([]impl.Hello{ack(7, 2)}, many)...))
	}
	return all
}

func wrongGreets() []impl.Greet {
	return slices.Concat(greetsWithWrongEnds(), greetsWithWrongLasts(), greetsWithWrongLists())
}

func TestWrongGreetingsAreRefused(t *testing.T) {
	for _, g := range wrongGreets() {
		if isGoodTalk(talkOf(g)) {
			t.Errorf("%v is good", g)
		}
		wantNoGreeting(t, g)
	}
}

func TestGreetingsWithinTheirLimitsAreGood(t *testing.T) {
	for _, g := range []impl.Greet{
		{}, {LastX: 1000, LastY: 1000},
		greet(side{waits, 1, 0}, side{}, 1, 0, ask(1)), greet(side{waits, 1000, 0}, side{}, 1000, 0, ask(1000)),
		greet(side{opens, 1, 1}, side{opens, 1, 1}, 1, 1, both(1, 1), ack(1, 1)), greet(side{opens, 1000, 1000}, side{opens, 1000, 1000}, 1000, 1000, both(1000, 1000), ack(1000, 1000)),
		greet(side{opens, 1, 3}, side{waits, 8, 1}, 8, 3, ack(8, 1), both(1, 3), ask(8)), greet(side{}, side{waits, 1, 1}, 1, 1), greet(side{}, side{opens, 8, 3}, 8, 3),
		withLine(impl.NewGreet(), slices.Repeat([]impl.Hello{ask(100)}, 30)...),
		opened(impl.Greet{LastX: 1, LastY: 1}, acks(300), acks(300)), opened(impl.Greet{LastX: 8, LastY: 3}, []impl.Hello{ack(8, 3), ack(8, 3)}, []impl.Hello{ack(1, 3)}),
	} {
		if !impl.GoodGreet(g) {
			t.Errorf("GoodGreet(%v)", g)
		}
	}
	next := shaker(154)
	counts := map[bool]int{}
	for k := range 6000 {
		g := oneChanged(shakenGreet(k, next), next)
		want := isGoodTalk(talkOf(g))
		counts[want]++
		if impl.GoodGreet(g) != want {
			t.Errorf("GoodGreet(%v): %t", g, !want)
		}
	}
	if counts[true] < 1000 || counts[false] < 1000 {
		t.Error("too few are good, or wrong:", counts)
	}
}

// oneChanged changes one number by a little: what comes of it may be good or not.
func oneChanged(g impl.Greet, next func(upto int) int) impl.Greet {
	numbers := []*int{&g.StateA, &g.StateB, &g.X, &g.Y, &g.OfX, &g.OfY, &g.LastX, &g.LastY}
	for _, l := range [][]impl.Hello{g.Line, g.OpenedA, g.OpenedB} {
		if len(l) > 0 {
			h := &l[next(len(l))]
			numbers = append(numbers, &h.Kind, &h.X, &h.Y)
		}
	}
	n := numbers[next(len(numbers))]
	*n = []int{*n - 1, *n + 1, *n + 2, 0}[next(4)]
	return g
}

// hiddenHellos stand behind the lists' lengths: one that is wrong, and one that is good.
var hiddenHellos = []impl.Hello{{Kind: -7, X: -7, Y: -7}, {Kind: impl.GtAck, X: 1, Y: 1}}

func withHiddenGreet(g impl.Greet, hidden impl.Hello) impl.Greet {
	return opened(withLine(g, withHidden(g.Line, hidden)...), withHidden(g.OpenedA, hidden), withHidden(g.OpenedB, hidden))
}

func wantGreetUnchanged(t *testing.T, what string, given, were impl.Greet, hidden impl.Hello) {
	t.Helper()
	if !sameGreet(given, were) {
		t.Errorf("%s: %v has become %v", what, were, given)
	}
	wantUnchanged(t, what, given.Line, were.Line, hidden)
	wantUnchanged(t, what, given.OpenedA, were.OpenedA, hidden)
	wantUnchanged(t, what, given.OpenedB, were.OpenedB, hidden)
}

// wreckedGreet writes all over an answer; a good letter that is hidden may stand in it as well.
func wreckedGreet(t *testing.T, what string, g impl.Greet) {
	t.Helper()
	for _, l := range [][]impl.Hello{g.Line, g.OpenedA, g.OpenedB} {
		wrecked(t, what, l, hiddenHellos[0])
	}
}

func TestGreetingsAreNotWrittenInto(t *testing.T) {
	wrong := wrongGreets()
	all := greetsToTry(80)
	for k := 0; k < len(wrong); k += 7 {
		all = append(all, wrong[k])
	}
	for _, were := range all {
		for _, hidden := range hiddenHellos {
			given := withHiddenGreet(were, hidden)
			is, ok := impl.BothOpen(given)
			plain, same := impl.BothOpen(were)
			if impl.GoodGreet(given) != impl.GoodGreet(were) || is != plain || ok != same {
				t.Errorf("%v hangs on what lies behind its lists", were)
			}
			wantGreetUnchanged(t, "GoodGreet, BothOpen", given, were, hidden)
			wantSettlingUntouched(t, given, were, hidden)
			for _, s := range stepsFor(were) {
				if s.K >= -1 && s.K <= len(were.Line) {
					wantSteppingUntouched(t, given, were, s, hidden)
				}
			}
		}
	}
}

func wantSettlingUntouched(t *testing.T, given, were impl.Greet, hidden impl.Hello) {
	t.Helper()
	got, ok := impl.SettleGreet(given)
	plain, same := impl.SettleGreet(were)
	if !sameGreet(got, plain) || ok != same {
		t.Errorf("SettleGreet(%v): %v, %t, and %v, %t", were, got, ok, plain, same)
	}
	wreckedGreet(t, "SettleGreet", got)
	wantGreetUnchanged(t, "SettleGreet", given, were, hidden)
	if again, _ := impl.SettleGreet(given); !sameGreet(again, plain) {
		t.Errorf("SettleGreet(%v): two answers share memory", were)
	}
}

func wantSteppingUntouched(t *testing.T, given, were impl.Greet, s impl.GreetStep, hidden impl.Hello) {
	t.Helper()
	got, ok := impl.StepGreet(given, s)
	plain, same := impl.StepGreet(talkOf(were).greet(), s)
	if !sameGreet(got, plain) || ok != same {
		t.Errorf("StepGreet(%v, %v): %v, %t, and %v, %t", were, s, got, ok, plain, same)
	}
	again, _ := impl.StepGreet(given, s)
	wreckedGreet(t, "StepGreet", got)
	wantGreetUnchanged(t, fmt.Sprint("StepGreet ", s), given, were, hidden)
	if !sameGreet(again, plain) {
		t.Errorf("StepGreet(%v, %v): two answers share memory", were, s)
	}
}

func TestPlaysAreNotWrittenInto(t *testing.T) {
	hidden := greetStep(impl.GrBegin, 0)
	for _, were := range append(playsToTry(16), nil, stepsIn("b t0 t0 t0"), make([]impl.GreetStep, impl.MaxGreetSteps+1)) {
		l := withHidden(were, hidden)
		want, done := played(were)
		if len(l) > impl.MaxGreetSteps {
			wantNoPlay(t, l)
		} else {
			wantPlay(t, l, want, done)
			wantPlay(t, l[:len(l)/2], firstOf(played(l[:len(l)/2])), done[:len(l)/2])
		}
		got, did, _ := impl.PlayGreet(l)
		again, didAgain, _ := impl.PlayGreet(l)
		plain, plainDid := talkOf(again).greet(), slices.Clone(didAgain)
		wreckedGreet(t, "PlayGreet", got)
		clear(did[:cap(did)])
		wantUnchanged(t, "PlayGreet", l, were, hidden)
		if !sameGreet(again, plain) || !slices.Equal(didAgain, plainDid) {
			t.Errorf("PlayGreet(%v): two answers share memory", were)
		}
	}
}

func firstOf(g impl.Greet, _ []bool) impl.Greet {
	return g
}

func TestListsOfLettersAreNotWrittenInto(t *testing.T) {
	for _, many := range []int{0, 1, 9, 299, 300, 301} {
		were := slices.Repeat([]impl.Hello{both(2, 3)}, many)
		for _, hidden := range hiddenHellos {
			l := withHidden(were, hidden)
			if has, _ := impl.HasHello(l, hidden); has {
				t.Errorf("HasHello of %d reads behind the list", many)
			}
			impl.HasHello(l, both(2, 3))
			wantUnchanged(t, "HasHello", l, were, hidden)
		}
	}
}

// wantHellosApart writes into each list in turn, and looks whether another one has it too.
func wantHellosApart(t *testing.T, what string, answers ...impl.Greet) {
	t.Helper()
	var all [][]impl.Hello
	for _, g := range answers {
		for _, l := range [][]impl.Hello{g.Line, g.OpenedA, g.OpenedB} {
			all = append(all, l[:cap(l)])
		}
	}
	for k, l := range all {
		mark := impl.Hello{Kind: -1000 - k}
		for at := range l {
			l[at] = mark
		}
		for other, m := range all {
			if other != k && slices.Contains(m, mark) {
				t.Errorf("%s: two lists share memory", what)
			}
		}
	}
}

func TestListsOfGreetingsAreApart(t *testing.T) {
	next := shaker(155)
	for range 200 {
		// All that is given lies in one piece of memory.
		piece := acks(30)
		a, b := next(20), next(20)
		g := opened(greet(side{waits, 1, 0}, side{waits, 1, 1}, 8, 3, piece[a:a+10]...), piece[b:b+10], piece[:3])
		for _, s := range stepsFor(g) {
			if s.K >= 0 && s.K < 10 {
				got, _ := impl.StepGreet(g, s)
				again, _ := impl.StepGreet(g, s)
				wantHellosApart(t, fmt.Sprint("StepGreet ", s), got, again)
			}
		}
		got, _ := impl.SettleGreet(g)
		again, _ := impl.SettleGreet(g)
		wantHellosApart(t, "SettleGreet", got, again)
		if !slices.Equal(piece, acks(30)) {
			t.Error("written into what was given")
		}
		l := shakenSteps(40, next(8), next)
		got, _, _ = impl.PlayGreet(l)
		again, _, _ = impl.PlayGreet(l)
		wantHellosApart(t, fmt.Sprint("PlayGreet ", l), got, again, impl.NewGreet(), impl.NewGreet())
	}
}

func TestNilAndEmptyListsOfGreetingsAreAlike(t *testing.T) {
	for _, g := range []impl.Greet{greet(side{waits, 7, 0}, side{waits, 7, 2}, 8, 3), impl.NewGreet(), {}} {
		empty := opened(withLine(g, []impl.Hello{}...), []impl.Hello{}, []impl.Hello{})
		for _, s := range stepsFor(g) {
			got, ok := impl.StepGreet(empty, s)
			plain, same := impl.StepGreet(g, s)
			if !sameGreet(got, plain) || ok != same {
				t.Errorf("StepGreet(%v, %v): %v, %t, and %v, %t", g, s, got, ok, plain, same)
			}
		}
		got, ok := impl.SettleGreet(empty)
		plain, same := impl.SettleGreet(g)
		if !sameGreet(got, plain) || ok != same || !impl.GoodGreet(empty) {
			t.Errorf("SettleGreet(%v): %v, %t, and %v, %t", g, got, ok, plain, same)
		}
	}
}

func TestGreetingsHangOnWhatIsGivenAlone(t *testing.T) {
	g := greet(side{waits, 7, 0}, side{waits, 7, 2}, 8, 3, both(7, 2))
	for range 3 {
		wantStep(t, g, greetStep(impl.GrTake, 0), opened(greet(side{opens, 7, 2}, side{waits, 7, 2}, 8, 3, ack(7, 2)), []impl.Hello{ack(7, 2)}, nil))
		wantNoGreetStep(t, g, greetStep(impl.GrTake, 1))
		wantPlay(t, stepsIn("b"), greet(side{waits, 101, 0}, side{}, 101, 0, ask(101)), []bool{true})
		wantNoPlay(t, slices.Repeat(stepsIn("b"), 121))
		wantStep(t, g, greetStep(impl.GrBegin, 0), greet(side{waits, 9, 0}, side{waits, 7, 2}, 9, 3, both(7, 2), ask(9)))
		wantNoGreeting(t, greet(side{waits, 9, 0}, side{}, 8, 3))
		wantBothOpen(t, g, false)
		wantHas(t, g.Line, both(7, 2), true)
		wantHas(t, g.OpenedA, both(7, 2), false)
	}
}
