package tests

import (
	"fmt"
	"math"
	"slices"
	"testing"

	"loop.example/g00527/impl"
)

// mostQuantum, mostPackets and mostSent are the greatest quantum, the most packets of a queue and the most that is Sent of it.
const (
	mostQuantum = 100
	mostPackets = 30
	mostSent    = 1000000
)

// lane is all that Turns tell of one queue.
type lane struct {
	quantum, credit, sent int
	waiting               []int
}

func turns(at int, lanes ...lane) impl.Turns {
	t := impl.Turns{At: at}
	for _, x := range lanes {
		t.Quanta = append(t.Quanta, x.quantum)
		t.Queues = append(t.Queues, slices.Clone(x.waiting))
		t.Credit = append(t.Credit, x.credit)
		t.Sent = append(t.Sent, x.sent)
	}
	return t
}

func lanesOf(t impl.Turns) []lane {
	var lanes []lane
	for k := range t.Quanta {
		lanes = append(lanes, lane{t.Quanta[k], t.Credit[k], t.Sent[k], slices.Clone(t.Queues[k])})
	}
	return lanes
}

func copiedTurns(t impl.Turns) impl.Turns {
	return turns(t.At, lanesOf(t)...)
}

func sameTurns(a, b impl.Turns) bool {
	return slices.Equal(a.Quanta, b.Quanta) && slices.EqualFunc(a.Queues, b.Queues, slices.Equal[[]int]) &&
		slices.Equal(a.Credit, b.Credit) && slices.Equal(a.Sent, b.Sent) && a.At == b.At
}

func sameAsNoTurns(t impl.Turns) bool {
	return len(t.Quanta) == 0 && len(t.Queues) == 0 && len(t.Credit) == 0 && len(t.Sent) == 0 && t.At == 0
}

// afterTurn is written apart from the program, to be held against it: as no packet is of size 0, those that are sent are the most whose sizes together are not above the Credit and the quantum. What is Sent it does not bound.
func afterTurn(t impl.Turns) (impl.Turns, []int) {
	lanes := lanesOf(t)
	x := &lanes[t.At]
	sums := upTo(x.waiting)
	many := len(x.waiting)
	for sums[many] > x.credit+x.quantum {
		many--
	}
	sent := x.waiting[:many:many]
	x.waiting = x.waiting[many:]
	x.sent += sums[many]
	x.credit += x.quantum - sums[many]
	if len(x.waiting) == 0 {
		x.credit = 0
	}
	at := t.At + 1
	if at == len(lanes) {
		at = 0
	}
	return turns(at, lanes...), sent
}

func allSent(t impl.Turns) int {
	return upTo(t.Sent)[len(t.Sent)]
}

func allWaiting(t impl.Turns) int {
	total := 0
	for _, waiting := range t.Queues {
		total += upTo(waiting)[len(waiting)]
	}
	return total
}

// shakenPackets are small ones, great ones, or ones of any size, as the kind tells.
func shakenPackets(many, kind int, next func(upto int) int) []int {
	var l []int
	for range many {
		switch kind % 4 {
		case 0:
			l = append(l, 1+next(impl.MaxPacket))
		case 1:
			l = append(l, impl.MaxPacket-next(2))
		case 2:
			l = append(l, 1+next(3))
		default:
			l = append(l, 1+(impl.MaxPacket-1)*next(2))
		}
	}
	return l
}

func shakenQuantum(next func(upto int) int) int {
	switch next(4) {
	case 0:
		return impl.MaxPacket
	case 1:
		return impl.MaxPacket + next(4)
	case 2:
		return mostQuantum
	default:
		return impl.MaxPacket + next(mostQuantum-impl.MaxPacket+1)
	}
}

// shakenTurns have queues of up to so many packets, one of four of them with nothing, and Sent of up to so much.
func shakenTurns(many, packets, sent, seed int) impl.Turns {
	next := shaker(seed)
	var lanes []lane
	for range many {
		x := lane{quantum: shakenQuantum(next), sent: next(sent + 1)}
		if next(4) > 0 {
			x.waiting = shakenPackets(next(packets+1), next(4), next)
		}
		if len(x.waiting) > 0 {
			x.credit = next(impl.MaxPacket)
		}
		lanes = append(lanes, x)
	}
	return turns(next(many), lanes...)
}

// turnsToTry are shaken Turns of 1..MaxQueues queues, short and long ones, far from the most that may be Sent and near to it.
func turnsToTry(each int) []impl.Turns {
	var all []impl.Turns
	for many := 1; many <= impl.MaxQueues; many++ {
		for seed := range each {
			all = append(all,
				shakenTurns(many, 3, 50, seed*11+many),
				shakenTurns(many, mostPackets, 5000, seed*13+many),
				shakenTurns(many, mostPackets, mostSent-20000, seed*17+many))
			near := shakenTurns(many, 5, 60, seed*19+many)
			for k := range near.Sent {
				near.Sent[k] = mostSent - near.Sent[k]
			}
			all = append(all, near)
		}
	}
	return all
}

// oneQueueEach are all Turns of one queue with up to 3 packets of some sizes, at each Credit, with a few quanta.
func oneQueueEach() []impl.Turns {
	queues := [][]int{nil}
	for at := 0; len(queues[at]) < 3; at++ {
		for _, size := range []int{1, 9, 10, 11, 19, 20} {
			queues = append(queues, append(slices.Clone(queues[at]), size))
		}
	}
	var all []impl.Turns
	for _, waiting := range queues {
		for _, quantum := range []int{20, 21, 39, 100} {
			for credit := range impl.MaxPacket {
				if credit == 0 || len(waiting) > 0 {
					all = append(all, turns(0, lane{quantum, credit, 7, waiting}))
				}
			}
		}
	}
	return all
}

func wantTurns(t *testing.T, what string, got impl.Turns, ok bool, want impl.Turns) {
	t.Helper()
	if !ok || !sameTurns(got, want) {
		t.Errorf("%s: %v, %t, not %v", what, got, ok, want)
	}
	if !impl.GoodTurns(got) {
		t.Errorf("%s: %v is not good", what, got)
	}
}

func wantNoTurns(t *testing.T, what string, got impl.Turns, ok bool) {
	t.Helper()
	if ok || !sameAsNoTurns(got) {
		t.Errorf("%s: %v, %t", what, got, ok)
	}
}

func wantTurn(t *testing.T, what string, from, want impl.Turns, sizes []int) {
	t.Helper()
	got, sent, ok := impl.NextTurn(from)
	wantTurns(t, what, got, ok, want)
	if !slices.Equal(sent, sizes) {
		t.Errorf("%s: NextTurn of %v sends %v, not %v", what, from, sent, sizes)
	}
}

func wantNoTurn(t *testing.T, what string, from impl.Turns) {
	t.Helper()
	got, sent, ok := impl.NextTurn(from)
	wantNoTurns(t, what, got, ok)
	if len(sent) > 0 {
		t.Errorf("%s: NextTurn of %v sends %v", what, from, sent)
	}
}

func wantTotals(t *testing.T, x impl.Turns, sent, waiting int) {
	t.Helper()
	if n, ok := impl.TotalSent(x); n != sent || !ok {
		t.Errorf("TotalSent of %v: %d, %t, not %d", x, n, ok, sent)
	}
	if n, ok := impl.WaitingIn(x); n != waiting || !ok {
		t.Errorf("WaitingIn of %v: %d, %t, not %d", x, n, ok, waiting)
	}
}

func TestLimitsOfTurns(t *testing.T) {
	if impl.MaxQueues != 4 || impl.MaxPacket != 20 || impl.MaxTurns != 60 {
		t.Error(impl.MaxQueues, impl.MaxPacket, impl.MaxTurns)
	}
}

func TestNewTurnsAreEmpty(t *testing.T) {
	for many := 1; many <= impl.MaxQueues; many++ {
		for quantum := impl.MaxPacket; quantum <= mostQuantum; quantum++ {
			var lanes []lane
			var quanta []int
			for k := range many {
				each := impl.MaxPacket + (quantum+31*k)%(mostQuantum-impl.MaxPacket+1)
				quanta = append(quanta, each)
				lanes = append(lanes, lane{quantum: each})
			}
			got, ok := impl.NewTurns(quanta)
			wantTurns(t, "NewTurns", got, ok, turns(0, lanes...))
			wantTotals(t, got, 0, 0)
		}
	}
	for _, quanta := range [][]int{{20}, {100}, {20, 100, 20, 100}, {100, 100, 100, 100}, {20, 20, 20, 20}} {
		if got, ok := impl.NewTurns(quanta); !ok || !slices.Equal(got.Quanta, quanta) || !impl.GoodTurns(got) {
			t.Errorf("NewTurns(%v): %v, %t", quanta, got, ok)
		}
	}
}

func TestQuantaWithinTheirLimits(t *testing.T) {
	for many := 1; many <= impl.MaxQueues; many++ {
		for at := range many {
			for quantum := -3; quantum <= mostQuantum+3; quantum++ {
				quanta := slices.Repeat([]int{50}, many)
				quanta[at] = quantum
				got, ok := impl.NewTurns(quanta)
				if want := quantum >= 20 && quantum <= 100; ok != want || sameAsNoTurns(got) == want {
					t.Errorf("NewTurns(%v): %v, %t", quanta, got, ok)
				}
			}
		}
	}
}

func TestTurnsJustWithinTheirLimits(t *testing.T) {
	for many := 1; many <= impl.MaxQueues; many++ {
		for at := range many {
			for k := range many {
				for _, x := range []lane{
					{quantum: 20},
					{quantum: 100},
					{quantum: 20, sent: mostSent},
					{20, 0, 0, []int{1}},
					{20, 19, 0, []int{1}},
					{100, 19, mostSent, []int{20}},
					{20, 19, 1, slices.Repeat([]int{1}, mostPackets)},
					{100, 0, 1, slices.Repeat([]int{20}, mostPackets)},
				} {
					lanes := slices.Repeat([]lane{{30, 3, 4, []int{5}}}, many)
					lanes[k] = x
					if good := turns(at, lanes...); !impl.GoodTurns(good) {
						t.Errorf("GoodTurns of %v: false", good)
					}
				}
			}
		}
	}
}

func TestCreditsWithinTheirLimits(t *testing.T) {
	for credit := -5; credit <= 1005; credit++ {
		for _, waiting := range [][]int{nil, {1}, {20}, slices.Repeat([]int{20}, mostPackets)} {
			want := credit == 0 || len(waiting) > 0 && credit > 0 && credit < 20
			for at := range 2 {
				x := turns(at, lane{quantum: 20, waiting: []int{3}}, lane{100, credit, 0, waiting})
				if impl.GoodTurns(x) != want {
					t.Errorf("GoodTurns of %v: %t", x, !want)
				}
			}
		}
	}
}

func TestPacketsWithinTheirLimits(t *testing.T) {
	for size := -3; size <= impl.MaxPacket+3; size++ {
		want := size >= 1 && size <= 20
		for _, waiting := range [][]int{{size}, {size, 5}, {5, size}, {5, size, 5}, append(slices.Repeat([]int{7}, mostPackets-1), size)} {
			if x := turns(0, lane{quantum: 20}, lane{quantum: 20, waiting: waiting}); impl.GoodTurns(x) != want {
				t.Errorf("GoodTurns of %v: %t", x, !want)
			}
		}
		got, ok := impl.PutPacket(turns(0, lane{quantum: 20}), 0, size)
		if want {
			wantTurns(t, "PutPacket", got, ok, turns(0, lane{quantum: 20, waiting: []int{size}}))
		} else {
			wantNoTurns(t, "PutPacket", got, ok)
		}
	}
	for many := range mostPackets + 4 {
		if x := turns(0, lane{quantum: 20, waiting: slices.Repeat([]int{3}, many)}); impl.GoodTurns(x) != (many <= 30) {
			t.Errorf("GoodTurns of %d packets: %t", many, many > 30)
		}
	}
}

func TestPacketsArePutBehind(t *testing.T) {
	for many := 1; many <= impl.MaxQueues; many++ {
		lanes := []lane{{20, 4, 9, []int{6}}, {100, 0, mostSent, nil}, {33, 19, 0, []int{1, 20, 3}}, {50, 0, 5, []int{2}}}[:many]
		for at := range many {
			for queue := range many {
				from := turns(at, lanes...)
				want := lanesOf(from)
				next := shaker(many*100 + at*10 + queue)
				for len(want[queue].waiting) < mostPackets {
					size := 1 + next(impl.MaxPacket)
					want[queue].waiting = append(want[queue].waiting, size)
					got, ok := impl.PutPacket(from, queue, size)
					wantTurns(t, "PutPacket", got, ok, turns(at, want...))
					from = got
				}
				full, ok := impl.PutPacket(from, queue, 1)
				wantNoTurns(t, "PutPacket behind a queue that has 30", full, ok)
				if !sameTurns(from, turns(at, want...)) {
					t.Errorf("what is refused has changed %v", from)
				}
				for other := range many {
					if other == queue {
						continue
					}
					if _, ok := impl.PutPacket(from, other, 20); !ok {
						t.Errorf("PutPacket behind %d is refused, where %d has 30", other, queue)
					}
				}
			}
		}
	}
}

func TestTurnsOfOneQueue(t *testing.T) {
	for _, x := range []struct {
		what     string
		from, to lane
		sizes    []int
	}{
		{"nothing waits", lane{20, 0, 3, nil}, lane{20, 0, 3, nil}, nil},
		{"nothing waits, and as much is Sent as may be", lane{20, 0, mostSent, nil}, lane{20, 0, mostSent, nil}, nil},
		{"all is sent, and the Credit is 0 then", lane{20, 0, 3, []int{5}}, lane{20, 0, 8, nil}, []int{5}},
		{"all is sent, with a Credit ahead", lane{20, 19, 0, []int{5, 6}}, lane{20, 0, 11, nil}, []int{5, 6}},
		{"all is sent by just the Credit", lane{20, 0, 0, []int{20}}, lane{20, 0, 20, nil}, []int{20}},
		{"a packet just as great as the Credit", lane{20, 5, 0, []int{15, 10, 7}}, lane{20, 0, 25, []int{7}}, []int{15, 10}},
		{"one greater by 1", lane{20, 5, 0, []int{15, 11, 7}}, lane{20, 10, 15, []int{11, 7}}, []int{15}},
		{"one less by 1", lane{20, 5, 0, []int{15, 9, 7}}, lane{20, 1, 24, []int{7}}, []int{15, 9}},
		{"the last just as great as the Credit", lane{20, 5, 0, []int{15, 10}}, lane{20, 0, 25, nil}, []int{15, 10}},
		{"the last greater by 1", lane{20, 5, 0, []int{15, 11}}, lane{20, 10, 15, []int{11}}, []int{15}},
		{"the first within the quantum alone", lane{20, 0, 0, []int{20, 1}}, lane{20, 0, 20, []int{1}}, []int{20}},
		{"what is small waits behind what is great", lane{20, 0, 0, []int{15, 6, 1, 1}}, lane{20, 5, 15, []int{6, 1, 1}}, []int{15}},
		{"alike ones", lane{20, 0, 0, []int{8, 8, 8, 8}}, lane{20, 4, 16, []int{8, 8}}, []int{8, 8}},
		{"a Credit of 19 left", lane{20, 19, 0, []int{20, 20}}, lane{20, 19, 20, []int{20}}, []int{20}},
		{"one that is greater by 1 than what is left of the Credit", lane{20, 19, 0, []int{1, 20, 19}}, lane{20, 18, 21, []int{19}}, []int{1, 20}},
		{"a quantum of 100", lane{100, 0, 0, slices.Repeat([]int{20}, 6)}, lane{100, 0, 100, []int{20}}, slices.Repeat([]int{20}, 5)},
		{"a quantum of 100 and a Credit of 19", lane{100, 19, 0, slices.Repeat([]int{20}, 6)}, lane{100, 19, 100, []int{20}}, slices.Repeat([]int{20}, 5)},
		{"a quantum of 100 and 30 packets of 1", lane{100, 19, 0, slices.Repeat([]int{1}, 30)}, lane{100, 0, 30, nil}, slices.Repeat([]int{1}, 30)},
		{"a quantum of 20 and 30 packets of 1", lane{20, 0, 0, slices.Repeat([]int{1}, 30)}, lane{20, 0, 20, slices.Repeat([]int{1}, 10)}, slices.Repeat([]int{1}, 20)},
		{"30 packets of 20", lane{20, 0, 0, slices.Repeat([]int{20}, 30)}, lane{20, 0, 20, slices.Repeat([]int{20}, 29)}, []int{20}},
		{"30 packets of 3 and a Credit", lane{20, 2, 0, slices.Repeat([]int{3}, 30)}, lane{20, 1, 21, slices.Repeat([]int{3}, 23)}, slices.Repeat([]int{3}, 7)},
		{"30 packets of 3 and a Credit of 10: all that is granted is sent", lane{20, 10, 0, slices.Repeat([]int{3}, 30)}, lane{20, 0, 30, slices.Repeat([]int{3}, 20)}, slices.Repeat([]int{3}, 10)},
	} {
		wantTurn(t, x.what, turns(0, x.from), turns(0, x.to), x.sizes)
	}
}

func TestTurnsGoRound(t *testing.T) {
	for many := 1; many <= impl.MaxQueues; many++ {
		lanes := []lane{{20, 3, 1, []int{15, 10}}, {30, 0, 2, nil}, {100, 7, 3, []int{20, 9}}, {40, 0, 4, []int{18, 17, 16}}}[:many]
		after := []struct {
			x     lane
			sizes []int
		}{
			{lane{20, 8, 16, []int{10}}, []int{15}},
			{lane{30, 0, 2, nil}, nil},
			{lane{100, 0, 32, nil}, []int{20, 9}},
			{lane{40, 5, 39, []int{16}}, []int{18, 17}},
		}
		for at := range many {
			want := slices.Clone(lanes)
			want[at] = after[at].x
			wantTurn(t, fmt.Sprint("the turn of ", at, " of ", many), turns(at, lanes...), turns((at+1)%many, want...), after[at].sizes)
		}
		run, ok := impl.NewTurns(slices.Repeat([]int{20}, many))
		for turn := range 3 * many {
			if !ok || run.At != turn%many {
				t.Errorf("behind %d turns of %d queues At is %d, %t", turn, many, run.At, ok)
			}
			run, _, ok = impl.NextTurn(run)
		}
	}
}

func TestATurnByItsSums(t *testing.T) {
	emptied, left, none, refused := 0, 0, 0, 0
	for _, from := range append(turnsToTry(300), oneQueueEach()...) {
		want, sizes := afterTurn(from)
		k := from.At
		switch {
		case want.Sent[k] > mostSent:
			wantNoTurn(t, "more than may be Sent", from)
			refused++
			continue
		case len(from.Queues[k]) == 0:
			none++
		case len(want.Queues[k]) == 0:
			emptied++
		default:
			left++
		}
		wantTurn(t, "a turn", from, want, sizes)
	}
	if min(emptied, left, none, refused) < 200 {
		t.Error("too few turns of a kind:", emptied, left, none, refused)
	}
}

func TestWhatIsSentAndWhatWaitsStaysAsMuch(t *testing.T) {
	for _, from := range turnsToTry(100) {
		wantTotals(t, from, allSent(from), allWaiting(from))
		next, sizes, ok := impl.NextTurn(from)
		if !ok {
			continue
		}
		sent := upTo(sizes)[len(sizes)]
		wantTotals(t, next, allSent(from)+sent, allWaiting(from)-sent)
		k := from.At
		if !slices.Equal(append(slices.Clone(sizes), next.Queues[k]...), from.Queues[k]) {
			t.Errorf("%v were sent and %v wait, of %v", sizes, next.Queues[k], from.Queues[k])
		}
		if run, ok := impl.RunTurns(from, impl.MaxTurns); ok {
			n, _ := impl.TotalSent(run)
			w, _ := impl.WaitingIn(run)
			if n+w != allSent(from)+allWaiting(from) {
				t.Errorf("behind %d turns of %v %d were sent and %d wait", impl.MaxTurns, from, n, w)
			}
		}
	}
	full := slices.Repeat([]lane{{20, 0, mostSent, slices.Repeat([]int{20}, mostPackets)}}, impl.MaxQueues)
	wantTotals(t, turns(3, full...), 4000000, 2400)
	wantTotals(t, turns(1, lane{20, 0, 7, nil}, lane{20, 3, 0, []int{4, 5}}), 7, 9)
}

func TestRunsAreTurnsOneByOne(t *testing.T) {
	whole, broken := 0, 0
	for seed, from := range turnsToTry(60) {
		step, going := copiedTurns(from), true
		for many := range impl.MaxTurns + 1 {
			got, ok := impl.RunTurns(from, many)
			if going {
				wantTurns(t, fmt.Sprint("RunTurns ", many), got, ok, step)
				step, _, going = impl.NextTurn(step)
				whole++
			} else {
				wantNoTurns(t, fmt.Sprint("RunTurns ", many, " behind what can't be Sent"), got, ok)
				broken++
			}
		}
		if seed%10 == 0 {
			want := copiedTurns(from)
			many := seed % (impl.MaxTurns + 1)
			fine := true
			for range many {
				want, _ = afterTurn(want)
				fine = fine && slices.Max(want.Sent) <= mostSent
			}
			if got, ok := impl.RunTurns(from, many); fine {
				wantTurns(t, "RunTurns by sums", got, ok, want)
			} else {
				wantNoTurns(t, "RunTurns by sums", got, ok)
			}
		}
	}
	if min(whole, broken) < 1000 {
		t.Error("too few runs of a kind:", whole, broken)
	}
}

func TestRunsOfNoneAndOfTheMost(t *testing.T) {
	from := turns(1, lane{20, 2, 5, []int{19, 4}}, lane{25, 0, 6, []int{20, 6, 20}}, lane{quantum: 100})
	got, ok := impl.RunTurns(from, 0)
	wantTurns(t, "RunTurns 0", got, ok, from)
	got, ok = impl.RunTurns(from, 1)
	wantTurns(t, "RunTurns 1", got, ok, turns(2, lane{20, 2, 5, []int{19, 4}}, lane{25, 5, 26, []int{6, 20}}, lane{quantum: 100}))
	got, ok = impl.RunTurns(from, 2)
	wantTurns(t, "RunTurns 2", got, ok, turns(0, lane{20, 2, 5, []int{19, 4}}, lane{25, 5, 26, []int{6, 20}}, lane{quantum: 100}))
	got, ok = impl.RunTurns(from, 3)
	wantTurns(t, "RunTurns 3", got, ok, turns(1, lane{20, 3, 24, []int{4}}, lane{25, 5, 26, []int{6, 20}}, lane{quantum: 100}))
	got, ok = impl.RunTurns(from, impl.MaxTurns)
	wantTurns(t, "RunTurns 60", got, ok, turns(1, lane{20, 0, 28, nil}, lane{25, 0, 52, nil}, lane{quantum: 100}))

	// One of 20 is sent in each turn: 30 turns empty it, one less does not, and all further ones find nothing.
	full := turns(0, lane{20, 0, 0, slices.Repeat([]int{20}, mostPackets)})
	for many := range impl.MaxTurns + 1 {
		left := max(0, mostPackets-many)
		got, ok := impl.RunTurns(full, many)
		wantTurns(t, "30 packets of 20", got, ok, turns(0, lane{20, 0, 600 - 20*left, slices.Repeat([]int{20}, left)}))
	}
	two := turns(1, lane{20, 0, 0, slices.Repeat([]int{20}, mostPackets)}, lane{20, 0, 0, slices.Repeat([]int{20}, mostPackets)})
	got, ok = impl.RunTurns(two, impl.MaxTurns)
	wantTurns(t, "two queues, 60 turns", got, ok, turns(1, lane{20, 0, 600, nil}, lane{20, 0, 600, nil}))
	got, ok = impl.RunTurns(two, impl.MaxTurns-1)
	wantTurns(t, "two queues, 59 turns", got, ok, turns(0, lane{20, 0, 580, []int{20}}, lane{20, 0, 600, nil}))
}

func TestSentUpToItsLimit(t *testing.T) {
	for _, x := range []struct {
		what    string
		credit  int
		waiting []int
		sizes   int
	}{
		{"one packet", 0, []int{7}, 1},
		{"one of size 1", 0, []int{1}, 1},
		{"one of some", 0, []int{20, 20, 20}, 1},
		{"two of some", 10, []int{13, 17, 1}, 2},
		{"all", 19, []int{13, 17, 1}, 3},
	} {
		gone := upTo(x.waiting)[x.sizes]
		for many := 1; many <= impl.MaxQueues; many++ {
			for at := range many {
				lanes := slices.Repeat([]lane{{20, 0, 11, []int{2}}}, many)
				lanes[at] = lane{20, x.credit, mostSent - gone, x.waiting}
				just := turns(at, lanes...)
				want, sizes := afterTurn(just)
				if want.Sent[at] != mostSent || len(sizes) != x.sizes {
					t.Fatal(x.what, want)
				}
				wantTurn(t, x.what+", just at the limit", just, want, sizes)
				got, ok := impl.RunTurns(just, 1)
				wantTurns(t, x.what+", just at the limit", got, ok, want)
				for _, more := range []int{1, gone} {
					lanes[at].sent = mostSent - gone + more
					above := turns(at, lanes...)
					if !impl.GoodTurns(above) {
						t.Fatal(x.what, above)
					}
					wantNoTurn(t, x.what+", above the limit", above)
					got, ok = impl.RunTurns(above, 1)
					wantNoTurns(t, x.what+", above the limit", got, ok)
					got, ok = impl.RunTurns(above, 0)
					wantTurns(t, x.what+", no turn", got, ok, above)
				}
			}
		}
	}
}

func TestTheLimitOfOthersDoesNotCount(t *testing.T) {
	from := turns(0, lane{20, 0, 5, []int{3}}, lane{20, 0, mostSent, []int{1}}, lane{20, 0, mostSent, nil})
	wantTurn(t, "another at the limit", from, turns(1, lane{20, 0, 8, nil}, lane{20, 0, mostSent, []int{1}}, lane{20, 0, mostSent, nil}), []int{3})
	from.At = 2
	wantTurn(t, "nothing waits at the limit", from, turns(0, lane{20, 0, 5, []int{3}}, lane{20, 0, mostSent, []int{1}}, lane{20, 0, mostSent, nil}), nil)
	got, ok := impl.RunTurns(from, 2)
	wantTurns(t, "up to the one that can't be sent", got, ok, turns(1, lane{20, 0, 8, nil}, lane{20, 0, mostSent, []int{1}}, lane{20, 0, mostSent, nil}))
	got, ok = impl.RunTurns(from, 3)
	wantNoTurns(t, "one that can't be sent is the last", got, ok)
	got, ok = impl.RunTurns(from, 4)
	wantNoTurns(t, "one that can't be sent is the last but one", got, ok)
	all := turns(0, slices.Repeat([]lane{{quantum: 20, sent: mostSent}}, impl.MaxQueues)...)
	got, ok = impl.RunTurns(all, impl.MaxTurns)
	wantTurns(t, "nothing waits anywhere", got, ok, all)
}

// busy follows one queue over turns in which it always has something waiting.
type busy struct {
	credit int
	sent   []int
}

// follow looks at a turn of the queue k; it begins anew where nothing waited or nothing waits then.
func (b *busy) follow(t *testing.T, k int, from, to impl.Turns) {
	t.Helper()
	if len(from.Queues[k]) == 0 || len(to.Queues[k]) == 0 {
		b.sent = nil
		return
	}
	if b.sent == nil {
		b.credit, b.sent = from.Credit[k], []int{from.Sent[k]}
	}
	b.sent = append(b.sent, to.Sent[k])
	last := len(b.sent) - 1
	quantum := to.Quanta[k]
	if to.Sent[k]-b.sent[0]+to.Credit[k] != b.credit+last*quantum {
		t.Errorf("in %d rounds %d was sent, at a quantum of %d, and the Credit was %d, is %d", last, to.Sent[k]-b.sent[0], quantum, b.credit, to.Credit[k])
	}
	for begin, sent := range b.sent[:last] {
		more := to.Sent[k] - sent - (last-begin)*quantum
		if more <= -impl.MaxPacket || more >= impl.MaxPacket {
			t.Errorf("in %d rounds %d was sent, at a quantum of %d", last-begin, to.Sent[k]-sent, quantum)
		}
	}
}

// refilled puts so many packets behind each queue, as far as there is room; one kind in five lets the queue be.
func refilled(t *testing.T, x impl.Turns, kinds []int, next func(upto int) int) impl.Turns {
	t.Helper()
	for k, kind := range kinds {
		if kind == 4 {
			continue
		}
		for _, size := range shakenPackets(mostPackets-len(x.Queues[k]), kind, next) {
			put, ok := impl.PutPacket(x, k, size)
			if !ok {
				t.Fatalf("PutPacket(%v, %d, %d) is refused", x, k, size)
			}
			x = put
		}
	}
	return x
}

func TestABusyQueueIsSentItsQuantumEachRound(t *testing.T) {
	long, begun := 0, 0
	for seed := range 120 {
		next := shaker(seed)
		many := 1 + seed%impl.MaxQueues
		var quanta, kinds []int
		for range many {
			quanta = append(quanta, shakenQuantum(next))
			kinds = append(kinds, next(5))
		}
		x, _ := impl.NewTurns(quanta)
		follows := make([]busy, many)
		for range 80 {
			x = refilled(t, x, kinds, next)
			for range many {
				k := x.At
				to, _, ok := impl.NextTurn(x)
				if !ok {
					t.Fatalf("NextTurn of %v is refused", x)
				}
				follows[k].follow(t, k, x, to)
				x = to
			}
		}
		for k := range follows {
			if len(follows[k].sent) > 80 {
				long++
			} else {
				begun++
			}
		}
	}
	if min(long, begun) < 40 {
		t.Error("too few queues always have something waiting, or too few do not:", long, begun)
	}
}

func TestBusyQueuesInRuns(t *testing.T) {
	followed := 0
	for seed := range 400 {
		next := shaker(seed)
		many := 1 + seed%impl.MaxQueues
		var lanes []lane
		for range many {
			lanes = append(lanes, lane{shakenQuantum(next), next(impl.MaxPacket), next(1000), shakenPackets(mostPackets, next(2), next)})
		}
		from := turns(next(many), lanes...)
		for rounds := 1; rounds*many <= impl.MaxTurns; rounds++ {
			got, ok := impl.RunTurns(from, rounds*many)
			if !ok || got.At != from.At {
				t.Fatalf("RunTurns(%v, %d): %v, %t", from, rounds*many, got, ok)
			}
			for k, waiting := range got.Queues {
				if len(waiting) == 0 {
					continue
				}
				followed++
				sent := got.Sent[k] - from.Sent[k]
				if sent+got.Credit[k] != from.Credit[k]+rounds*from.Quanta[k] {
					t.Errorf("in %d rounds of %v %d was sent of %d, the Credit is %d", rounds, from, sent, k, got.Credit[k])
				}
			}
		}
	}
	if followed < 5000 {
		t.Error("too few queues always have something waiting:", followed)
	}
}

// TestAnEmptyQueueSavesNothing lets a queue stand empty for many rounds: it is sent no more for it, and its neighbour no less.
func TestAnEmptyQueueSavesNothing(t *testing.T) {
	for rounds := range 30 {
		x := turns(0, lane{20, 6, 0, []int{4}}, lane{quantum: 20, waiting: slices.Repeat([]int{20}, mostPackets)})
		x, ok := impl.RunTurns(x, 2*(rounds+1))
		if !ok || x.Credit[0] != 0 || x.Sent[0] != 4 || x.Sent[1] != 20*(rounds+1) {
			t.Fatalf("behind %d rounds: %v, %t", rounds+1, x, ok)
		}
		for range 3 {
			x, _ = impl.PutPacket(x, 0, 19)
		}
		wantTurn(t, "no more than its quantum", x, turns(1, lane{20, 1, 23, []int{19, 19}}, lanesOf(x)[1]), []int{19})
	}
}

// spoilt are Turns with one thing that is wrong.
type spoilt struct {
	what string
	t    impl.Turns
}

// wrongLanes are single queues with one thing that is wrong.
func wrongLanes() []lane {
	var all []lane
	for _, n := range []int{-1, math.MinInt, math.MinInt + 1, math.MaxInt, math.MaxInt - 1} {
		all = append(all, lane{quantum: n}, lane{n, 3, 0, []int{5}}, lane{20, n, 0, []int{5}}, lane{20, n, 0, nil}, lane{quantum: 20, sent: n}, lane{20, 3, n, []int{5}},
			lane{20, 0, 0, []int{n}}, lane{20, 0, 0, []int{5, n}}, lane{20, 0, 0, []int{n, 5}})
	}
	for _, quantum := range []int{0, 1, 19, 101, 120} {
		all = append(all, lane{quantum: quantum}, lane{quantum, 3, 0, []int{5}})
	}
	for _, credit := range []int{-20, 20, 21, 100, 999, 1000, 1001} {
		all = append(all, lane{20, credit, 0, []int{5}}, lane{100, credit, 0, []int{20, 1}}, lane{20, credit, 0, nil})
	}
	for _, credit := range []int{1, 2, 10, 19} {
		all = append(all, lane{20, credit, 0, nil}, lane{100, credit, 7, []int{}})
	}
	for _, sent := range []int{mostSent + 1, mostSent + 2, 2 * mostSent} {
		all = append(all, lane{quantum: 20, sent: sent}, lane{20, 3, sent, []int{5}})
	}
	for _, size := range []int{0, 21, 22, 100} {
		all = append(all, lane{20, 0, 0, []int{size}}, lane{20, 0, 0, []int{size, 1}}, lane{20, 0, 0, []int{1, 2, size}})
	}
	return append(all, lane{}, lane{20, 0, 0, slices.Repeat([]int{1}, mostPackets+1)}, lane{100, 0, 0, slices.Repeat([]int{20}, 2*mostPackets)},
		lane{20, 0, 0, append(slices.Repeat([]int{1}, mostPackets-1), 0)})
}

func wrongTurns() []spoilt {
	all := []spoilt{
		{"nothing at all", impl.Turns{}},
		{"an At and nothing else", impl.Turns{At: 1}},
		{"lists that are empty", impl.Turns{Quanta: []int{}, Queues: [][]int{}, Credit: []int{}, Sent: []int{}}},
		{"too many queues", turns(0, slices.Repeat([]lane{{quantum: 20}}, impl.MaxQueues+1)...)},
		{"far too many queues", turns(0, slices.Repeat([]lane{{30, 1, 2, []int{3}}}, 40)...)},
	}
	for many := 1; many <= impl.MaxQueues; many++ {
		lanes := []lane{{20, 4, 9, []int{6}}, {100, 0, mostSent, nil}, {33, 19, 0, []int{1, 20, 3}}, {50, 0, 5, []int{2}}}[:many]
		add := func(what string, spoil func(x *impl.Turns)) {
			x := turns(many-1, lanes...)
			spoil(&x)
			all = append(all, spoilt{what, x})
		}
		for k := range many {
			for _, wrong := range wrongLanes() {
				for at := range many {
					bad := slices.Clone(lanes)
					bad[k] = wrong
					all = append(all, spoilt{"a wrong queue", turns(at, bad...)})
				}
			}
		}
		for _, at := range []int{-1, -many, many, many + 1, 2 * many, 100, math.MinInt, math.MaxInt, math.MinInt + 1, math.MaxInt - 1} {
			add("a wrong At", func(x *impl.Turns) { x.At = at })
		}
		add("no quanta", func(x *impl.Turns) { x.Quanta = nil })
		add("no queues", func(x *impl.Turns) { x.Queues = nil })
		add("no Credit", func(x *impl.Turns) { x.Credit = nil })
		add("no Sent", func(x *impl.Turns) { x.Sent = nil })
		add("a quantum too many", func(x *impl.Turns) { x.Quanta = append(x.Quanta, 20) })
		add("a queue too many", func(x *impl.Turns) { x.Queues = append(x.Queues, nil) })
		add("a Credit too many", func(x *impl.Turns) { x.Credit = append(x.Credit, 0) })
		add("a Sent too many", func(x *impl.Turns) { x.Sent = append(x.Sent, 0) })
		// What is missing stands behind the length, and must not be read there.
		add("a quantum too few", func(x *impl.Turns) { x.Quanta = withHidden(x.Quanta[:many-1], 20) })
		add("a queue too few", func(x *impl.Turns) { x.Queues = withHidden(x.Queues[:many-1], nil) })
		add("a Credit too few", func(x *impl.Turns) { x.Credit = withHidden(x.Credit[:many-1], 0) })
		add("a Sent too few", func(x *impl.Turns) { x.Sent = withHidden(x.Sent[:many-1], 0) })
	}
	return all
}

func TestWrongTurnsAreRefused(t *testing.T) {
	for _, x := range wrongTurns() {
		if impl.GoodTurns(x.t) {
			t.Errorf("%s: %v is good", x.what, x.t)
		}
		for _, queue := range []int{0, 1, len(x.t.Quanta) - 1} {
			got, ok := impl.PutPacket(x.t, queue, 5)
			wantNoTurns(t, "PutPacket at "+x.what, got, ok)
		}
		wantNoTurn(t, "NextTurn at "+x.what, x.t)
		for _, many := range []int{0, 1, impl.MaxTurns, -1, impl.MaxTurns + 1} {
			got, ok := impl.RunTurns(x.t, many)
			wantNoTurns(t, "RunTurns at "+x.what, got, ok)
		}
		if n, ok := impl.TotalSent(x.t); n != 0 || ok {
			t.Errorf("TotalSent at %s: %d, %t", x.what, n, ok)
		}
		if n, ok := impl.WaitingIn(x.t); n != 0 || ok {
			t.Errorf("WaitingIn at %s: %d, %t", x.what, n, ok)
		}
	}
}

func TestWrongQuantaAreRefused(t *testing.T) {
	lists := [][]int{nil, {}, {20, 20, 20, 20, 20}, slices.Repeat([]int{100}, 5), slices.Repeat([]int{50}, 1000), {0}, withHidden([]int(nil), 20), withHidden([]int{20, 20, 20, 20, 20}, 20)}
	for many := 1; many <= impl.MaxQueues; many++ {
		for k := range many {
			for _, quantum := range []int{-1, 0, 1, 19, 101, 1000, math.MinInt, math.MinInt + 1, math.MaxInt, math.MaxInt - 1} {
				quanta := slices.Repeat([]int{20}, many)
				quanta[k] = quantum
				lists = append(lists, quanta)
			}
		}
	}
	for _, quanta := range lists {
		got, ok := impl.NewTurns(quanta)
		wantNoTurns(t, fmt.Sprintf("NewTurns(%v)", quanta), got, ok)
	}
}

func TestWrongPacketsAndTurnsAreRefused(t *testing.T) {
	for many := 1; many <= impl.MaxQueues; many++ {
		lanes := []lane{{20, 4, 9, []int{6}}, {100, 0, mostSent, nil}, {33, 19, 0, []int{1, 20, 3}}, {50, 0, 5, []int{2}}}[:many]
		from := turns(0, lanes...)
		for _, queue := range []int{-1, -many, many, many + 1, 4, 5, math.MinInt, math.MinInt + 1, math.MaxInt, math.MaxInt - 1} {
			for _, size := range []int{1, 20, 0, -1, 21} {
				if queue >= 0 && queue < many {
					continue
				}
				got, ok := impl.PutPacket(from, queue, size)
				wantNoTurns(t, fmt.Sprintf("PutPacket at %d of %d", queue, many), got, ok)
			}
		}
		for queue := range many {
			for _, size := range []int{0, -1, 21, 22, 100, math.MinInt, math.MinInt + 1, math.MaxInt, math.MaxInt - 1} {
				got, ok := impl.PutPacket(from, queue, size)
				wantNoTurns(t, fmt.Sprintf("PutPacket of %d", size), got, ok)
			}
		}
		for _, often := range []int{-1, -60, 61, 62, 1000, math.MinInt, math.MinInt + 1, math.MaxInt, math.MaxInt - 1} {
			got, ok := impl.RunTurns(from, often)
			wantNoTurns(t, fmt.Sprintf("RunTurns of %d", often), got, ok)
		}
		if !sameTurns(from, turns(0, lanes...)) {
			t.Errorf("what is refused has changed %v", from)
		}
	}
}

// withHiddenTurns have something behind the length of each of their lists.
func withHiddenTurns(x impl.Turns) impl.Turns {
	hidden := impl.Turns{Quanta: withHidden(x.Quanta, hiddenNumber), Credit: withHidden(x.Credit, hiddenNumber), Sent: withHidden(x.Sent, hiddenNumber), At: x.At}
	for _, waiting := range x.Queues {
		hidden.Queues = append(hidden.Queues, withHidden(waiting, hiddenNumber))
	}
	hidden.Queues = withHidden(hidden.Queues, []int{hiddenNumber})
	return hidden
}

func wantTurnsUnchanged(t *testing.T, what string, given, were impl.Turns) {
	t.Helper()
	wantUnchanged(t, what, given.Quanta, were.Quanta, hiddenNumber)
	wantUnchanged(t, what, given.Credit, were.Credit, hiddenNumber)
	wantUnchanged(t, what, given.Sent, were.Sent, hiddenNumber)
	for k := range given.Queues {
		wantUnchanged(t, what, given.Queues[k], were.Queues[k], hiddenNumber)
	}
	if len(given.Queues) != len(were.Queues) || given.At != were.At {
		t.Errorf("%s: %v has become %v", what, were, given)
	}
	for _, waiting := range given.Queues[len(given.Queues):cap(given.Queues)] {
		if !slices.Equal(waiting, []int{hiddenNumber}) {
			t.Fatalf("%s: written behind the list of queues", what)
		}
	}
}

func wreckedTurns(t *testing.T, what string, answer impl.Turns) {
	t.Helper()
	wrecked(t, what, answer.Quanta, hiddenNumber)
	wrecked(t, what, answer.Credit, hiddenNumber)
	wrecked(t, what, answer.Sent, hiddenNumber)
	for _, waiting := range answer.Queues {
		wrecked(t, what, waiting, hiddenNumber)
	}
	whole := answer.Queues[:cap(answer.Queues)]
	for _, waiting := range whole[len(answer.Queues):] {
		if waiting != nil {
			t.Errorf("%s: %v is left behind the list of queues", what, waiting)
		}
	}
	for k := range whole {
		whole[k] = nil
	}
}

func TestTurnsAreNotWrittenInto(t *testing.T) {
	all := turnsToTry(20)
	all = append(all, turns(0, lane{quantum: 20, waiting: []int{}}), turns(2, slices.Repeat([]lane{{100, 19, 0, slices.Repeat([]int{20}, mostPackets)}}, impl.MaxQueues)...))
	for k, x := range wrongTurns() {
		if k%7 == 0 && len(x.t.Quanta) == len(x.t.Queues) && len(x.t.Quanta) == len(x.t.Credit) && len(x.t.Quanta) == len(x.t.Sent) {
			all = append(all, x.t)
		}
	}
	for _, x := range all {
		given, were := withHiddenTurns(x), copiedTurns(x)
		if impl.GoodTurns(given) != impl.GoodTurns(were) {
			t.Errorf("GoodTurns of %v hangs on what lies behind its lists", were)
		}
		impl.TotalSent(given)
		impl.WaitingIn(given)
		wantTurnsUnchanged(t, "asked", given, were)
		fresh, ok := impl.NewTurns(given.Quanta)
		plain, same := impl.NewTurns(were.Quanta)
		if ok != same || !sameTurns(fresh, plain) {
			t.Errorf("NewTurns: %v, %t, and %v, %t", fresh, ok, plain, same)
		}
		wreckedTurns(t, "NewTurns", fresh)
		wantTurnsUnchanged(t, "NewTurns", given, were)
		for queue := range len(x.Queues) {
			put, ok := impl.PutPacket(given, queue, 7)
			plain, same := impl.PutPacket(were, queue, 7)
			if ok != same || !sameTurns(put, plain) {
				t.Errorf("PutPacket: %v, %t, and %v, %t", put, ok, plain, same)
			}
			wreckedTurns(t, "PutPacket", put)
			wantTurnsUnchanged(t, "PutPacket", given, were)
		}
		next, sizes, ok := impl.NextTurn(given)
		plain, sent, same := impl.NextTurn(were)
		if ok != same || !sameTurns(next, plain) || !slices.Equal(sizes, sent) {
			t.Errorf("NextTurn: %v, %v, %t, and %v, %v, %t", next, sizes, ok, plain, sent, same)
		}
		wreckedTurns(t, "NextTurn", next)
		wrecked(t, "NextTurn's sizes", sizes, hiddenNumber)
		wantTurnsUnchanged(t, "NextTurn", given, were)
		for _, many := range []int{0, 1, 7, impl.MaxTurns} {
			run, ok := impl.RunTurns(given, many)
			plain, same := impl.RunTurns(were, many)
			if ok != same || !sameTurns(run, plain) {
				t.Errorf("RunTurns %d: %v, %t, and %v, %t", many, run, ok, plain, same)
			}
			wreckedTurns(t, "RunTurns", run)
			wantTurnsUnchanged(t, "RunTurns", given, were)
		}
	}
}

// listsOf are all lists of numbers that Turns have, as far as their memory goes.
func listsOf(x impl.Turns) [][]int {
	lists := [][]int{x.Quanta, x.Credit, x.Sent}
	lists = append(lists, x.Queues...)
	for k, l := range lists {
		lists[k] = l[:cap(l)]
	}
	return lists
}

// wantApart writes into each list in turn, and looks whether another one has it too.
func wantApart(t *testing.T, what string, lists [][]int) {
	t.Helper()
	for k, l := range lists {
		for at := range l {
			l[at] = -1000 - k
		}
		for other, m := range lists {
			if other != k && slices.Contains(m, -1000-k) {
				t.Errorf("%s: two lists of the answer share memory", what)
			}
		}
	}
}

func TestListsOfTurnsAreApart(t *testing.T) {
	// All that is given lies in one piece of memory, and queues that are alike are one list.
	piece := []int{20, 20, 20, 20}
	like := impl.Turns{Quanta: piece, Queues: [][]int{piece[:3], piece[:3], piece[1:], piece}, Credit: []int{0, 0, 0, 0}}
	like.Sent = like.Credit
	all := append(turnsToTry(20), like, turns(0, slices.Repeat([]lane{{20, 0, 0, slices.Repeat([]int{20}, mostPackets)}}, impl.MaxQueues)...))
	for _, x := range all {
		fresh, _ := impl.NewTurns(x.Quanta)
		wantApart(t, "NewTurns", listsOf(fresh))
		for queue := range len(x.Queues) {
			put, _ := impl.PutPacket(x, queue, 7)
			wantApart(t, "PutPacket", listsOf(put))
		}
		next, sizes, _ := impl.NextTurn(x)
		wantApart(t, "NextTurn", append(listsOf(next), sizes[:cap(sizes)]))
		for _, many := range []int{0, 1, 5, impl.MaxTurns} {
			run, _ := impl.RunTurns(x, many)
			wantApart(t, "RunTurns", listsOf(run))
		}
		if !slices.Equal(piece, []int{20, 20, 20, 20}) {
			t.Fatal("written into what was given", piece)
		}
	}
}

func TestAnswersOfTurnsDoNotHangOnEachOther(t *testing.T) {
	from := turns(0, lane{20, 0, 0, []int{5, 6, 7}}, lane{30, 2, 3, []int{4}})
	put, _ := impl.PutPacket(from, 0, 8)
	first, _ := impl.PutPacket(put, 0, 9)
	second, _ := impl.PutPacket(put, 0, 10)
	if !slices.Equal(first.Queues[0], []int{5, 6, 7, 8, 9}) || !slices.Equal(second.Queues[0], []int{5, 6, 7, 8, 10}) {
		t.Error(first.Queues, second.Queues)
	}
	run, _ := impl.RunTurns(put, 0)
	run.Queues[0][0], run.Quanta[0], run.Credit[1], run.Sent[1] = 1, 21, 19, 20
	want := turns(0, lane{20, 0, 0, []int{5, 6, 7, 8}}, lane{30, 2, 3, []int{4}})
	if !sameTurns(put, want) {
		t.Errorf("%v, not %v", put, want)
	}
}
