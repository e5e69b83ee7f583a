package tests

import (
	"fmt"
	"math"
	"slices"
	"strconv"
	"strings"
	"testing"

	"loop.example/g00527/impl"
)

const (
	lastOutEnd = 100
	mostOuts   = 6
)

func carryStep(kind, k int) impl.CarryStep {
	return impl.CarryStep{Kind: kind, K: k}
}

func submit(text string, end int) impl.CarryStep {
	return impl.CarryStep{Kind: impl.CaSubmit, K: end, Text: text}
}

// carryStepsIn reads steps that are written short: a block (b), its End and its text, send, take, lose, twice (w) and tick (k), with their K.
func carryStepsIn(script string) []impl.CarryStep {
	var l []impl.CarryStep
	for _, word := range strings.Fields(script) {
		number, text, _ := strings.Cut(word[1:], ":")
		k, _ := strconv.Atoi(number)
		l = append(l, impl.CarryStep{Kind: 1 + strings.IndexByte("bstlwk", word[0]), K: k, Text: text})
	}
	return l
}

func script(words string, times int) string {
	return strings.Repeat(words+" ", times)
}

// outIn reads an out that is written short: its text, its End, + or . for each part, and its Final.
func outIn(short string) impl.Out {
	words := strings.Split(short, "/")
	end, _ := strconv.Atoi(words[1])
	x := impl.Out{Text: words[0], End: end, Final: strings.IndexByte("ngo", words[3][0])}
	for k := range len(words[2]) {
		x.Heard = append(x.Heard, words[2][k] == '+')
	}
	return x
}

func outsIn(short string) []impl.Out {
	var l []impl.Out
	for _, word := range strings.Fields(short) {
		l = append(l, outIn(word))
	}
	return l
}

func shownOut(x impl.Out) string {
	marks := ""
	for _, heard := range x.Heard {
		marks += map[bool]string{true: "+", false: "."}[heard]
	}
	return fmt.Sprintf("%s/%d/%s/%d", x.Text, x.End, marks, x.Final)
}

// shownFrame has an arrow for the way that it goes.
func shownFrame(f impl.Frame) string {
	arrow := map[bool]string{false: ">", true: "<"}[f.Back]
	return fmt.Sprintf("%s%d@%d/%d:%s=%d", arrow, f.Part.Id, f.Part.At, f.Part.Long, f.Part.Text, f.What)
}

// shown tells all that a carrier has: Now, outs, Line, blocks, what is Told, Had and Gone; ~ for a byte 0.
func shown(c impl.Carrier) string {
	s := fmt.Sprint(c.Now, " |")
	for _, x := range c.Outs {
		s += " " + shownOut(x)
	}
	s += " |"
	for _, f := range c.Line {
		s += " " + shownFrame(f)
	}
	s += " |"
	for _, b := range c.Store.Blocks {
		s += fmt.Sprintf(" %d/%d:%s%v", b.Id, b.Long, b.Text, b.Has)
	}
	s += fmt.Sprint(" | ", c.Store.Told, " |")
	for _, x := range c.Had {
		s += fmt.Sprintf(" %d=%s@%d", x.Id, x.Text, x.At)
	}
	return strings.ReplaceAll(s, "\x00", "~") + fmt.Sprint(" | ", c.Gone)
}

func sameOut(a, b impl.Out) bool {
	return a.Text == b.Text && a.End == b.End && slices.Equal(a.Heard, b.Heard) && a.Final == b.Final
}

func sameCarrier(a, b impl.Carrier) bool {
	if a.Now != b.Now || !slices.EqualFunc(a.Outs, b.Outs, sameOut) || !slices.Equal(a.Line, b.Line) {
		return false
	}
	return sameStore(a.Store, b.Store) && slices.Equal(a.Had, b.Had) && slices.Equal(a.Gone, b.Gone)
}

func isNoCarrier(c impl.Carrier) bool {
	return sameCarrier(c, impl.Carrier{})
}

// The ones from here on are written apart from the program, to be held against it.

// parcel is a text that was given, with all that has come of it, by the numbers of its parts. There is no store: what stands in it is told by what came.
type parcel struct {
	text  string
	end   int
	came  []int
	heard []int
	said  int
	when  int
	final int
}

// ride is a frame; what it has to tell is below 0 on the way there.
type ride struct{ of, number, tells int }

type cart struct {
	now  int
	all  []parcel
	line []ride
	had  []int
	gone []int
	seen map[string]int
}

func newCart() *cart {
	return &cart{seen: map[string]int{}}
}

func (x parcel) many() int {
	return (len(x.text) + 3) / 4
}

// left are the numbers of the parts that are not in a list.
func (x parcel) left(l []int) []int {
	return slices.DeleteFunc(fromBelow(0, x.many()), func(n int) bool { return slices.Contains(l, n) })
}

func (c *cart) carrier() impl.Carrier {
	is := impl.Carrier{Now: c.now, Gone: slices.Clone(c.gone)}
	s := shelf{}
	for id, x := range c.all {
		heard := make([]bool, x.many())
		for _, n := range x.heard {
			heard[n] = true
		}
		for _, n := range x.came {
			s.put(cutOf(id, x.text)[n])
		}
		is.Outs = append(is.Outs, impl.Out{Text: x.text, End: x.end, Heard: heard, Final: x.final})
	}
	is.Store = s.store()
	for _, r := range c.line {
		x := c.all[r.of]
		p := cutOf(r.of, x.text)[r.number]
		if r.tells < 0 {
			is.Line = append(is.Line, impl.Frame{Part: p, What: x.end})
		} else {
			is.Line = append(is.Line, impl.Frame{Back: true, Part: part(r.of, p.At, p.Long, ""), What: r.tells})
		}
	}
	for _, id := range c.had {
		is.Had = append(is.Had, impl.Got{Id: id, Text: c.all[id].text, At: c.all[id].when})
	}
	return is
}

func (c *cart) do(s impl.CarryStep) bool {
	if s.Kind != 1 && s.Text != "" {
		return false
	}
	rides := 0 <= s.K && s.K < len(c.line)
	switch {
	case s.Kind == 1:
		return c.give(s.Text, s.K)
	case s.Kind == 2 && s.K == 0:
		return c.send()
	case s.Kind == 3 && rides:
		c.reach(c.off(s.K))
	case s.Kind == 4 && rides:
		c.off(s.K)
	case s.Kind == 5 && rides && len(c.line) < 30:
		c.on(c.line[s.K])
	case s.Kind == 6 && s.K == 0 && c.now < lastNow:
		c.now++
	default:
		return false
	}
	return true
}

func (c *cart) give(text string, end int) bool {
	if text == "" || len(text) > 40 || end < c.now || end > lastOutEnd || len(c.all) == mostOuts {
		return false
	}
	c.all = append(c.all, parcel{text: text, end: end})
	return true
}

// send looks for each End in turn whether some parcel has it.
func (c *cart) send() bool {
	for end := range lastOutEnd + 1 {
		for id, x := range c.all {
			if left := x.left(x.heard); x.end == end && x.final == 0 && len(left) > 0 {
				c.on(ride{id, left[0], -1})
				return true
			}
		}
	}
	return false
}

func (c *cart) on(r ride) {
	if len(c.line) == 30 {
		c.seen["no room"]++
		return
	}
	c.line = append(c.line, r)
}

func (c *cart) off(at int) ride {
	r := c.line[at]
	c.line = slices.Concat(c.line[:at], c.line[at+1:])
	return r
}

func (c *cart) reach(r ride) {
	x := &c.all[r.of]
	switch {
	case r.tells < 0:
		c.seen[fmt.Sprint("part of ", x.said)]++
		c.hand(x, r)
		c.on(ride{r.of, r.number, x.said})
	case r.tells == 0:
		c.seen[fmt.Sprint("heard of ", x.final)]++
		x.heard = append(x.heard, r.number)
	default:
		c.seen[fmt.Sprint("told of ", x.final)]++
		x.final = r.tells
	}
}

// hand gives a part to the receiver, who says nothing otherwise than before.
func (c *cart) hand(x *parcel, r ride) {
	switch {
	case x.said != 0:
	case c.now > x.end:
		x.said = 2
		c.gone = append(c.gone, r.of)
	case slices.Contains(x.came, r.number):
		c.seen["twice"]++
	default:
		x.came = append(x.came, r.number)
		if len(x.left(x.came)) == 0 {
			x.said, x.when = 1, c.now
			c.had = append(c.had, r.of)
		}
	}
}

func carted(l []impl.CarryStep) (*cart, []bool) {
	c := newCart()
	var done []bool
	for _, s := range l {
		done = append(done, c.do(s))
	}
	return c, done
}

// settle counts, and does not go step by step: a parcel that lacks parts is sent as long as the last of these has not come.
func (c *cart) settle() int {
	rounds := 0
	for end := range lastOutEnd + 1 {
		for id := range c.all {
			if x := &c.all[id]; x.end == end && x.final == 0 {
				rounds += c.finish(id, x)
				c.line = nil
			}
		}
	}
	return rounds
}

func (c *cart) finish(id int, x *parcel) int {
	rounds := 1
	if lacks := x.left(x.came); x.said == 0 && c.now <= x.end {
		open := x.left(x.heard)
		rounds = 1 + slices.Index(open, slices.Max(lacks))
		x.heard = append(x.heard, open[:rounds-1]...)
		x.came = append(x.came, lacks...)
		x.said, x.when = 1, c.now
		c.had = append(c.had, id)
	} else if x.said == 0 {
		x.said = 2
		c.gone = append(c.gone, id)
	}
	x.final = x.said
	return rounds
}

// pickedOf sorts what may be picked, those as near as they stand.
func pickedOf(l []impl.Out) (int, int, bool) {
	var open []int
	for k, x := range l {
		if x.Final == 0 && slices.Contains(x.Heard, false) {
			open = append(open, k)
		}
	}
	if len(open) == 0 {
		return 0, 0, false
	}
	slices.SortStableFunc(open, func(a, b int) int { return l[a].End - l[b].End })
	return open[0], strings.Index(shownOut(impl.Out{Heard: l[open[0]].Heard}), ".") - len("/0/"), true
}

func dueBy(l []impl.Out, now int) int {
	var marks string
	for _, x := range l {
		if x.End < now+1 && x.Final == 0 {
			marks += shownOut(impl.Out{Heard: x.Heard})
		}
	}
	return strings.Count(marks, ".")
}

func shakenOuts(most int, next func(upto int) int) []impl.Out {
	var l []impl.Out
	for range next(most + 1) {
		x := impl.Out{Text: shakenText(1+next([]int{9, 40}[next(2)]), next(6), next), End: []int{next(3), next(lastOutEnd + 1), 50, lastOutEnd}[next(4)], Final: max(0, next(5)-2)}
		all := next(4) == 0
		for range (len(x.Text) + 3) / 4 {
			x.Heard = append(x.Heard, all || next(3) == 0)
		}
		l = append(l, x)
	}
	return l
}

// shakenCarrySteps are mixed by kind; most frames that they name are there.
func shakenCarrySteps(many, kind int, next func(upto int) int) []impl.CarryStep {
	mixes := []string{"bstlwk", "bssstttt", "bbsttttwwk", "sstttllwwb", "bsswwwttk", "stt", "bssssttttwwl", "kkkbsstt", "bbssswwwwwww", "bsswtttk", "ssssttwww"}
	mix := mixes[kind%len(mixes)]
	long := []int{2, 9, 20, impl.MaxBlock}[next(4)]
	c := newCart()
	var l []impl.CarryStep
	for range many {
		letter := mix[next(len(mix))]
		if len(c.all) == 0 && next(4) > 0 || len(l) > 0 && len(l) < 4 && kind%3 > 0 {
			letter = 'b'
		}
		s := carryStep(1+strings.IndexByte("bstlwk", letter), 0)
		switch letter {
		case 'b':
			s = submit(shakenText(1+next(long), next(6), next), c.now+[]int{next(4), next(30), lastOutEnd - c.now}[next(3)])
		case 't', 'l', 'w':
			s.K = []int{0, next(max(1, len(c.line))), len(c.line) - 1}[next(3)]
		}
		if next(40) == 0 {
			s = []impl.CarryStep{carryStep(next(9)-1, next(34)-2), submit("", c.now), submit("a", c.now-1), submit("b", 101), {Kind: 2 + next(5), Text: "c"}}[next(5)]
		}
		c.do(s)
		l = append(l, s)
	}
	return l
}

func carriersToPlay(each int) [][]impl.CarryStep {
	next := shaker(171)
	var all [][]impl.CarryStep
	for _, many := range []int{4, 15, 40, impl.MaxCarrySteps - 1, impl.MaxCarrySteps} {
		for k := range each {
			all = append(all, shakenCarrySteps(many, k, next))
		}
	}
	return all
}

func wantCarrier(t *testing.T, l []impl.CarryStep, want impl.Carrier, done []bool) {
	t.Helper()
	if got, did, ok := impl.PlayCarrier(l); !ok || !sameCarrier(got, want) || !slices.Equal(did, done) {
		t.Errorf("PlayCarrier(%v): %q, %v, %t, not %q, %v", l, shown(got), did, ok, shown(want), done)
	}
}

// wantShown holds a play that is written short against all that it must come to; undone are the steps that can't be done.
func wantShown(t *testing.T, steps string, want string, undone ...int) {
	t.Helper()
	l := carryStepsIn(steps)
	got, did, ok := impl.PlayCarrier(l)
	done := slices.Repeat([]bool{true}, len(l))
	for _, k := range undone {
		done[k] = false
	}
	if !ok || shown(got) != want || !slices.Equal(did, done) {
		t.Errorf("PlayCarrier(%s):\n%s, %v, %t, not\n%s, %v", steps, shown(got), did, ok, want, done)
	}
}

// wantNothingDone has a step behind others that can't be done, and changes nothing.
func wantNothingDone(t *testing.T, l []impl.CarryStep, wrong ...impl.CarryStep) {
	t.Helper()
	want, done, _ := impl.PlayCarrier(l)
	for _, s := range wrong {
		wantCarrier(t, append(slices.Clone(l), s), want, append(slices.Clone(done), false))
	}
}

func wantCarrierSettled(t *testing.T, l []impl.CarryStep, want impl.Carrier, many int) {
	t.Helper()
	if got, n, ok := impl.SettleCarrier(l); !ok || n != many || !sameCarrier(got, want) {
		t.Errorf("SettleCarrier(%v): %q, %d, %t, not %q, %d", l, shown(got), n, ok, shown(want), many)
	}
}

func wantFinals(t *testing.T, l []impl.CarryStep, want ...int) {
	t.Helper()
	if got, ok := impl.FinalsOf(l); !ok || !slices.Equal(got, want) {
		t.Errorf("FinalsOf(%v): %v, %t, not %v", l, got, ok, want)
	}
}

func wantHad(t *testing.T, l []impl.CarryStep, id int, want string, is bool) {
	t.Helper()
	if got, had, ok := impl.HadOf(l, id); got != want || had != is || !ok {
		t.Errorf("HadOf(%v, %d): %q, %t, %t, not %q, %t", l, id, got, had, ok, want, is)
	}
}

func wantNoCarrier(t *testing.T, l []impl.CarryStep) {
	t.Helper()
	if c, did, ok := impl.PlayCarrier(l); ok || len(did) != 0 || !isNoCarrier(c) {
		t.Errorf("PlayCarrier of %d steps: %q, %v, %t", len(l), shown(c), did, ok)
	}
	if c, n, ok := impl.SettleCarrier(l); ok || n != 0 || !isNoCarrier(c) {
		t.Errorf("SettleCarrier of %d steps: %q, %d, %t", len(l), shown(c), n, ok)
	}
	if finals, ok := impl.FinalsOf(l); ok || len(finals) != 0 {
		t.Errorf("FinalsOf of %d steps: %v, %t", len(l), finals, ok)
	}
	for _, id := range append([]int{-1, 0, 1, 6}, farInts...) {
		if text, is, ok := impl.HadOf(l, id); text != "" || is || ok {
			t.Errorf("HadOf of %d steps, %d: %q, %t, %t", len(l), id, text, is, ok)
		}
	}
}

func wantPicked(t *testing.T, l []impl.Out, k, number int, is bool) {
	t.Helper()
	if out, at, some, ok := impl.PickPart(l); out != k || at != number || some != is || !ok {
		t.Errorf("PickPart(%v): %d, %d, %t, %t, not %d, %d, %t", l, out, at, some, ok, k, number, is)
	}
}

func wantDue(t *testing.T, l []impl.Out, now, want int) {
	t.Helper()
	if n, ok := impl.DueIn(l, now); n != want || !ok {
		t.Errorf("DueIn(%v, %d): %d, %t, not %d", l, now, n, ok, want)
	}
}

func wantNoDue(t *testing.T, l []impl.Out, now int) {
	t.Helper()
	if n, ok := impl.DueIn(l, now); n != 0 || ok {
		t.Errorf("DueIn(%v, %d): %d, %t", l, now, n, ok)
	}
}

func wantNoOuts(t *testing.T, l []impl.Out) {
	t.Helper()
	if impl.GoodOuts(l) {
		t.Errorf("GoodOuts(%v)", l)
	}
	if k, at, is, ok := impl.PickPart(l); k != 0 || at != 0 || is || ok {
		t.Errorf("PickPart(%v): %d, %d, %t, %t", l, k, at, is, ok)
	}
	for _, now := range append([]int{0, 9, 100, 200, 201, -1}, farInts...) {
		wantNoDue(t, l, now)
	}
}

func TestLimitsOfCarriers(t *testing.T) {
	if impl.MaxOuts != 6 || impl.MaxCarrySteps != 100 || impl.MaxLine != 30 || impl.MaxBlock != 40 || impl.PartSize != 4 {
		t.Error(impl.MaxOuts, impl.MaxCarrySteps, impl.MaxLine, impl.MaxBlock, impl.PartSize)
	}
	kinds := []int{impl.CaSubmit, impl.CaSend, impl.CaTake, impl.CaLose, impl.CaTwice, impl.CaTick}
	if !slices.Equal(kinds, fromBelow(1, 7)) {
		t.Error(kinds)
	}
}

func TestCarriersPlayedByHand(t *testing.T) {
	for _, x := range []struct {
		steps, want string
		undone      []int
	}{
		{"", "0 | | | | [] | | []", nil},
		{"b5:abcdef", "0 | abcdef/5/../0 | | | [] | | []", nil},
		{"b5:abcdef s", "0 | abcdef/5/../0 | >0@0/6:abcd=5 | | [] | | []", nil},
		// As nothing is Heard, the first part is sent again.
		{"b5:abcdef s s", "0 | abcdef/5/../0 | >0@0/6:abcd=5 >0@0/6:abcd=5 | | [] | | []", nil},
		{"b5:abcdef s t0", "0 | abcdef/5/../0 | <0@0/6:=0 | 0/6:abcd~~[{0 4}] | [] | | []", nil},
		{"b5:abcdef s t0 t0", "0 | abcdef/5/+./0 | | 0/6:abcd~~[{0 4}] | [] | | []", nil},
		{"b5:abcdef s t0 t0 s", "0 | abcdef/5/+./0 | >0@4/6:ef=5 | 0/6:abcd~~[{0 4}] | [] | | []", nil},
		{"b5:abcdef s t0 t0 s k k t0", "2 | abcdef/5/+./0 | <0@4/6:=1 | | [0] | 0=abcdef@2 | []", nil},
		{"b5:abcdef s t0 t0 s k k t0 k t0", "3 | abcdef/5/+./1 | | | [0] | 0=abcdef@2 | []", nil},
		{"b5:abcdef s t0 t0 s t0 t0 s", "0 | abcdef/5/+./1 | | | [0] | 0=abcdef@0 | []", []int{7}},
		{"b0:abcd s t0 t0", "0 | abcd/0/./1 | | | [0] | 0=abcd@0 | []", nil},
		// The nearest End first, of as near ones the first.
		{"b5:ab b3:cd b3:ef s", "0 | ab/5/./0 cd/3/./0 ef/3/./0 | >1@0/2:cd=3 | | [] | | []", nil},
		{"b5:ab b3:cd b3:ef s t0 t0 s t0 t0 s", "0 | ab/5/./0 cd/3/./1 ef/3/./1 | >0@0/2:ab=5 | | [1 2] | 1=cd@0 2=ef@0 | []", nil},
		{"b3:cd b9:ab k s t0 b2:ef s t1 b8:xy", "1 | cd/3/./0 ab/9/./0 ef/2/./0 xy/8/./0 | <0@0/2:=1 <2@0/2:=1 | | [0 2] | 0=cd@1 2=ef@1 | []", nil},
		// A block is gone just one tick behind its End, and stays so.
		{"b1:ab s k t0 t0", "1 | ab/1/./1 | | | [0] | 0=ab@1 | []", nil},
		{"b1:ab s k k t0", "2 | ab/1/./0 | <0@0/2:=2 | | [] | | [0]", nil},
		{"b1:ab s k k t0 t0", "2 | ab/1/./2 | | | [] | | [0]", nil},
		{"b1:ab s k k t0 t0 s", "2 | ab/1/./2 | | | [] | | [0]", []int{6}},
		{"b1:abcdef s t0 t0 k k s t0 t0", "2 | abcdef/1/+./2 | | 0/6:abcd~~[{0 4}] | [] | | [0]", nil},
		{"b0:ab b0:cd s t0 l0 k s t0 s t1", "1 | ab/0/./0 cd/0/./0 | <0@0/2:=1 <0@0/2:=1 | | [0] | 0=ab@0 | []", nil},
		{"b1:ab b0:cd k s k s w1 t0 t0 t0", "2 | ab/1/./0 cd/0/./0 | <1@0/2:=2 <1@0/2:=2 <1@0/2:=2 | | [] | | [1]", nil},
		{"b1:ab b0:cd k s k s t0 t0 t0 s t1", "2 | ab/1/./0 cd/0/./2 | <1@0/2:=2 <0@0/2:=2 | | [] | | [1 0]", nil},
		// What was had stays had, and comes too late no more.
		{"b0:ab s w0 t0 k t0 t0 t0", "1 | ab/0/./1 | | | [0] | 0=ab@0 | []", nil},
		{"b0:ab s t0 l0 k k s t0 t0", "2 | ab/0/./1 | | | [0] | 0=ab@0 | []", nil},
		// The last part comes first: what is there waits in the store, whole it is told.
		{"b9:abcdef s w0 w0 t0 t2 s w2 t3 t2", "0 | abcdef/9/+./0 | >0@0/6:abcd=9 >0@0/6:abcd=9 <0@4/6:=1 <0@4/6:=1 | | [0] | 0=abcdef@0 | []", nil},
		{"b9:abcdef s w0 t0 t1 s t1 t1 t0 t0", "0 | abcdef/9/+./1 | | | [0] | 0=abcdef@0 | []", nil},
		// Heard is heard, though all is told: an old one comes late.
		{"b9:abcdef s t0 w0 t0 s t1 t1 t0", "0 | abcdef/9/+./1 | | | [0] | 0=abcdef@0 | []", nil},
		{"b2:abcdefghi s t0 k k k s t1 t1 t0", "3 | abcdefghi/2/+../2 | | 0/9:abcd~~~~~[{0 4}] | [] | | [0]", nil},
		// A part comes again, and is told to have come.
		{"b9:abcdef s t0 l0 s t0 t0", "0 | abcdef/9/+./0 | | 0/6:abcd~~[{0 4}] | [] | | []", nil},
		{"b9:abcdef s w0 l0 w0 t1 t0", "0 | abcdef/9/../0 | <0@0/6:=0 <0@0/6:=0 | 0/6:abcd~~[{0 4}] | [] | | []", nil},
		{"t0 l0 w0 s b1:a s", "0 | a/1/./0 | >0@0/1:a=1 | | [] | | []", []int{0, 1, 2, 3}},
	} {
		wantShown(t, x.steps, x.want, x.undone...)
	}
}

func TestBlocksSubmittedByHand(t *testing.T) {
	for long := range impl.MaxBlock + 3 {
		text := counted(long, 90)
		for _, end := range []int{0, 1, 99, 100} {
			if long >= 1 && long <= impl.MaxBlock {
				wantCarrier(t, []impl.CarryStep{submit(text, end)}, impl.Carrier{Outs: []impl.Out{{Text: text, End: end, Heard: make([]bool, (long+3)/4)}}}, []bool{true})
			} else {
				wantNothingDone(t, nil, submit(text, end))
			}
		}
		wantNothingDone(t, nil, submit(text, -1), submit(text, 101))
	}
	for _, long := range []int{41, 44, 100, 100000} {
		wantNothingDone(t, carryStepsIn("b1:a s"), submit(strings.Repeat("a", long), 1))
	}
	// The End is Now at least.
	for now := 0; now <= lastOutEnd-2; now += 7 {
		l := carryStepsIn(script("k", now))
		for _, end := range append([]int{now - 1, now - 2, -1, 101, 102, 200}, farInts...) {
			wantNothingDone(t, l, submit("ab", end))
		}
		for _, end := range []int{now, now + 1, 100} {
			wantCarrier(t, append(l[:now:now], submit("ab", end)), impl.Carrier{Now: now, Outs: []impl.Out{{Text: "ab", End: end, Heard: []bool{false}}}}, slices.Repeat([]bool{true}, now+1))
		}
	}
	full := carryStepsIn("b0:a b1:b b2:c b3:d b4:e b100:f")
	wantShown(t, "b0:a b1:b b2:c b3:d b4:e b100:f b5:g b100:h", "0 | a/0/./0 b/1/./0 c/2/./0 d/3/./0 e/4/./0 f/100/./0 | | | [] | | []", 6, 7)
	wantNothingDone(t, full, submit("g", 0), submit("g", 100))
	// An out that is Final is an out.
	wantNothingDone(t, append(full, carryStepsIn("s t0 t0")...), submit("g", 9))
	// One of the last tick can be had in it alone.
	wantShown(t, script("k", 96)+"b100:ab s t0 t0", "96 | ab/100/./1 | | | [0] | 0=ab@96 | []")
	wantShown(t, script("k", 97)+"b97:ab s t0", "97 | ab/97/./0 | <0@0/2:=1 | | [0] | 0=ab@97 | []")
}

func TestPartsSentByHand(t *testing.T) {
	for _, steps := range []string{"", "k", "b1:a s t0 t0", "b0:a s k t0 t0", "b3:ab b4:c s t0 t0 s t0 t0"} {
		wantNothingDone(t, carryStepsIn(steps), carryStep(impl.CaSend, 0))
	}
	// No room for the frame: it is sent all the same.
	full := "b2:ab s " + script("w0", 28) + "b1:cd "
	line := script(">0@0/2:ab=2", 29)
	wantShown(t, full+"s", "0 | ab/2/./0 cd/1/./0 | "+line+">1@0/2:cd=1 | | [] | | []")
	wantShown(t, full+"s s s", "0 | ab/2/./0 cd/1/./0 | "+line+">1@0/2:cd=1 | | [] | | []")
	wantShown(t, full+"s t29 s", "0 | ab/2/./0 cd/1/./0 | "+line+"<1@0/2:=1 | | [1] | 1=cd@0 | []")
	for _, k := range append([]int{-1, 1, 2, 29, 30}, farInts...) {
		wantNothingDone(t, carryStepsIn(full), carryStep(impl.CaSend, k))
	}
	// Parts of every place, from the front on, each with what it is of.
	text := counted(39, 60)
	l := []impl.CarryStep{submit(text, 7)}
	for number, p := range cutOf(0, text) {
		c, _, _ := impl.PlayCarrier(append(slices.Clone(l), carryStep(impl.CaSend, 0)))
		if want := []impl.Frame{{Part: p, What: 7}}; !slices.Equal(c.Line, want) {
			t.Errorf("part %d is sent as %v", number, c.Line)
		}
		l = append(l, carryStepsIn("s t0 t0")...)
	}
	wantHad(t, l, 0, text, true)
}

func TestFramesTakenLostAndDoubledByHand(t *testing.T) {
	begin := "b1:abcd b9:efghij s t0 s s w1 "
	ofB := "<0@0/4:=1 >0@0/4:abcd=1 >0@0/4:abcd=1 >0@0/4:abcd=1"
	outs := "abcd/1/./0 efghij/9/../0"
	wantShown(t, begin, "0 | "+outs+" | "+ofB+" | | [0] | 0=abcd@0 | []")
	wantShown(t, begin+"l0", "0 | "+outs+" | >0@0/4:abcd=1 >0@0/4:abcd=1 >0@0/4:abcd=1 | | [0] | 0=abcd@0 | []")
	wantShown(t, begin+"l3 l0", "0 | "+outs+" | >0@0/4:abcd=1 >0@0/4:abcd=1 | | [0] | 0=abcd@0 | []")
	wantShown(t, begin+"w0", "0 | "+outs+" | "+ofB+" <0@0/4:=1 | | [0] | 0=abcd@0 | []")
	wantShown(t, begin+"t2", "0 | "+outs+" | <0@0/4:=1 >0@0/4:abcd=1 >0@0/4:abcd=1 <0@0/4:=1 | | [0] | 0=abcd@0 | []")
	wantShown(t, begin+"k k k t2 t0", "3 | abcd/1/./1 efghij/9/../0 | >0@0/4:abcd=1 >0@0/4:abcd=1 <0@0/4:=1 | | [0] | 0=abcd@0 | []")
	for _, steps := range []string{"", begin, begin + script("w1", 26)} {
		l := carryStepsIn(steps)
		c, _, _ := impl.PlayCarrier(l)
		for _, k := range append([]int{-1, -2, len(c.Line), len(c.Line) + 1, 30, 31}, farInts...) {
			wantNothingDone(t, l, carryStep(impl.CaTake, k), carryStep(impl.CaLose, k), carryStep(impl.CaTwice, k))
		}
	}
	full := begin + script("w1", 26)
	line := script(">0@0/4:abcd=1", 29)
	wantShown(t, full+"w0 w5 w29", "0 | "+outs+" | <0@0/4:=1 "+strings.TrimSpace(line)+" | | [0] | 0=abcd@0 | []", 33, 34, 35)
	// There is room where the frame was.
	wantShown(t, full+"t29", "0 | "+outs+" | <0@0/4:=1 "+script(">0@0/4:abcd=1", 28)+"<0@0/4:=1 | | [0] | 0=abcd@0 | []")
	wantShown(t, full+"l3 w0 w0", "0 | "+outs+" | <0@0/4:=1 "+script(">0@0/4:abcd=1", 28)+"<0@0/4:=1 | | [0] | 0=abcd@0 | []", 35)
}

// TestClocksOfCarriers goes as far as so many steps can go.
func TestClocksOfCarriers(t *testing.T) {
	for many := range impl.MaxCarrySteps + 1 {
		wantCarrier(t, carryStepsIn(script("k", many)), impl.Carrier{Now: many}, slices.Repeat([]bool{true}, many))
	}
	for _, k := range append([]int{-1, 1, 2, 100, 200}, farInts...) {
		wantNothingDone(t, carryStepsIn("b1:a s k"), carryStep(impl.CaTick, k))
	}
}

// TestTicksUpToEachEnd has a part come at each time about an End.
func TestTicksUpToEachEnd(t *testing.T) {
	for end := range 96 {
		for _, now := range []int{0, end - 1, end, end + 1, end + 2} {
			if now < 0 || now > 96 {
				continue
			}
			l := append([]impl.CarryStep{submit("ab", end), carryStep(impl.CaSend, 0)}, carryStepsIn(script("k", now)+"t0 t0")...)
			if now <= end {
				wantHad(t, l, 0, "ab", true)
				wantFinals(t, l, impl.VdGot)
			} else {
				wantHad(t, l, 0, "", false)
				wantFinals(t, l, impl.VdGone)
			}
			c, done := carted(l)
			wantCarrier(t, l, c.carrier(), done)
		}
	}
}

func TestNoCarryStepsOneAndTheMost(t *testing.T) {
	for _, l := range [][]impl.CarryStep{nil, {}} {
		wantCarrier(t, l, impl.Carrier{}, nil)
		wantCarrierSettled(t, l, impl.Carrier{}, 0)
		wantFinals(t, l)
		wantHad(t, l, 0, "", false)
	}
	for kind := range 9 {
		l := []impl.CarryStep{carryStep(kind, 0)}
		c, done := carted(l)
		wantCarrier(t, l, c.carrier(), done)
	}
	for _, s := range []impl.CarryStep{carryStep(impl.CaTick, 0), carryStep(impl.CaSend, 0), submit("abcde", 100), {}, {Kind: 7, K: math.MaxInt, Text: "x"}} {
		for _, many := range []int{impl.MaxCarrySteps - 1, impl.MaxCarrySteps} {
			l := slices.Repeat([]impl.CarryStep{s}, many)
			c, done := carted(l)
			wantCarrier(t, l, c.carrier(), done)
			rounds := c.settle()
			wantCarrierSettled(t, l, c.carrier(), rounds)
		}
		for _, many := range []int{impl.MaxCarrySteps + 1, impl.MaxCarrySteps + 2, 200, 100000} {
			wantNoCarrier(t, slices.Repeat([]impl.CarryStep{s}, many))
		}
	}
	for _, l := range carriersToPlay(4) {
		wantNoCarrier(t, append(slices.Clone(l), slices.Repeat([]impl.CarryStep{{}}, impl.MaxCarrySteps+1-len(l))...))
	}
}

// TestAllShortCarriers goes through all that can be done in few steps.
func TestAllShortCarriers(t *testing.T) {
	seen := map[string]int{}
	for _, begin := range []string{"", "b0:ab", "b1:abcde", "b1:abcde b0:x", "b0:abcde s b0:x", "b2:abcdefghi s t0 t0", "b0:ab s w0 w0 t0 t1", "b0:ab s s s k t0 t0"} {
		words := strings.Fields("s t0 t1 l0 w0 k")
		if begin == "" {
			words = append(words, "b0:ab", "b1:abcde")
		}
		plays := []string{begin}
		for range 5 {
			var longer []string
			for _, steps := range plays {
				for _, word := range words {
					longer = append(longer, steps+" "+word)
				}
			}
			plays = longer
			for _, steps := range plays {
				wantAsCarted(t, carryStepsIn(steps), seen)
			}
		}
	}
	for _, what := range []string{"part of 0", "part of 1", "part of 2", "heard of 0", "told of 0", "told of 1", "told of 2", "twice"} {
		if seen[what] < 500 {
			t.Error("too few:", what, seen)
		}
	}
}

func wantAsCarted(t *testing.T, l []impl.CarryStep, seen map[string]int) {
	t.Helper()
	c, done := carted(l)
	wantCarrier(t, l, c.carrier(), done)
	for what, many := range c.seen {
		seen[what] += many
	}
}

func TestCarriersStepByStep(t *testing.T) {
	seen := map[string]int{}
	for _, l := range carriersToPlay(160) {
		for many := range len(l) + 1 {
			if many%7 == len(l)%7 || len(l) < 50 {
				wantAsCarted(t, l[:many], seen)
			}
		}
	}
	for _, what := range []string{"part of 0", "part of 1", "part of 2", "heard of 0", "heard of 1", "heard of 2", "told of 0", "told of 1", "told of 2", "twice", "no room"} {
		if seen[what] < 100 {
			t.Error("too few:", what, seen)
		}
	}
}

// wantPromised looks at each step by what was given alone: what is had is just that, once, and in time, and what was told stays told.
func wantPromised(t *testing.T, l []impl.CarryStep) impl.Carrier {
	t.Helper()
	var given []impl.CarryStep
	was := impl.Carrier{}
	for many := 1; many <= len(l); many++ {
		is, did, ok := impl.PlayCarrier(l[:many])
		if !ok || len(did) != many {
			t.Fatalf("PlayCarrier(%v): %v, %t", l[:many], did, ok)
		}
		if done := did[many-1]; done && l[many-1].Kind == impl.CaSubmit {
			given = append(given, l[many-1])
		} else if !done && !sameCarrier(was, is) {
			t.Errorf("%v can't be done, and changes %s to %s", l[many-1], shown(was), shown(is))
		}
		wantHadAsGiven(t, is, given)
		wantStaysTold(t, was, is)
		was = is
	}
	return was
}

func wantHadAsGiven(t *testing.T, c impl.Carrier, given []impl.CarryStep) {
	t.Helper()
	said := make([]int, len(given))
	for _, x := range c.Had {
		if s := given[x.Id]; x.Text != s.Text || x.At > s.K || x.At > c.Now || said[x.Id] != 0 {
			t.Errorf("%v is had, of %v: %s", x, s, shown(c))
		}
		said[x.Id] = impl.VdGot
	}
	for _, id := range c.Gone {
		if said[id] != 0 || c.Now <= given[id].K {
			t.Errorf("%d is gone: %s", id, shown(c))
		}
		said[id] = impl.VdGone
	}
	for id, x := range c.Outs {
		if x.Text != given[id].Text || x.End != given[id].K || x.Final != 0 && x.Final != said[id] {
			t.Errorf("out %d of %v: %s", id, given[id], shown(c))
		}
		if slices.Contains(c.Store.Told, id) != (said[id] == impl.VdGot) {
			t.Errorf("%d is told, but not had, or had, but not told: %s", id, shown(c))
		}
	}
	if len(c.Outs) != len(given) || len(c.Line) > 30 || !impl.GoodOuts(c.Outs) || !impl.GoodStore(c.Store) {
		t.Errorf("not good: %s", shown(c))
	}
}

func wantStaysTold(t *testing.T, was, is impl.Carrier) {
	t.Helper()
	if is.Now < was.Now || len(is.Outs) < len(was.Outs) || len(is.Had) < len(was.Had) || len(is.Gone) < len(was.Gone) {
		t.Fatalf("%s, and then %s", shown(was), shown(is))
	}
	if !slices.Equal(is.Had[:len(was.Had)], was.Had) || !slices.Equal(is.Gone[:len(was.Gone)], was.Gone) {
		t.Errorf("had or gone no more: %s, and then %s", shown(was), shown(is))
	}
	for id, x := range was.Outs {
		if x.Final != 0 && is.Outs[id].Final != x.Final {
			t.Errorf("said otherwise: %s, and then %s", shown(was), shown(is))
		}
		for n, heard := range x.Heard {
			if heard && !is.Outs[id].Heard[n] {
				t.Errorf("heard no more: %s, and then %s", shown(was), shown(is))
			}
		}
	}
}

func TestWhatIsHadIsWhatWasGiven(t *testing.T) {
	had, gone, finals := 0, 0, 0
	for _, l := range carriersToPlay(50) {
		c := wantPromised(t, l)
		had += len(c.Had)
		gone += len(c.Gone)
		for _, x := range c.Outs {
			finals += min(1, x.Final)
		}
	}
	if had < 150 || gone < 30 || finals < 150 {
		t.Error("too few are had, gone, or final:", had, gone, finals)
	}
}

// shakenSubmits are some blocks, and ticks behind them all.
func shakenSubmits(long int, next func(upto int) int) []impl.CarryStep {
	var l []impl.CarryStep
	for range 1 + next(mostOuts) {
		l = append(l, submit(shakenText(1+next(long), next(6), next), next(12)))
	}
	return append(l, carryStepsIn(script("k", next(9)))...)
}

// wantAllInTimeHad looks at blocks that were all given at 0.
func wantAllInTimeHad(t *testing.T, l []impl.CarryStep, c impl.Carrier) (int, int) {
	t.Helper()
	had, gone := 0, 0
	for id, x := range c.Outs {
		if c.Now <= x.End {
			had++
			if !slices.Contains(c.Had, impl.Got{Id: id, Text: x.Text, At: c.Now}) || x.Final != impl.VdGot {
				t.Errorf("%v: %d is not had: %s", l, id, shown(c))
			}
		} else {
			gone++
			if !slices.Contains(c.Gone, id) || x.Final != impl.VdGone {
				t.Errorf("%v: %d is not gone: %s", l, id, shown(c))
			}
		}
	}
	if len(c.Had) != had || len(c.Gone) != gone {
		t.Errorf("%v: had %d, gone %d: %s", l, had, gone, shown(c))
	}
	return had, gone
}

// TestAGoodLineHasAllThatIsNotTooLate has frames taken in any order, also twice; none is lost, and no tick is between.
func TestAGoodLineHasAllThatIsNotTooLate(t *testing.T) {
	next := shaker(172)
	had, gone, ended := 0, 0, 0
	for range 3000 {
		l := shakenSubmits(6, next)
		c, _ := carted(l)
		for len(l) < impl.MaxCarrySteps {
			s := carryStep(impl.CaSend, 0)
			if many := len(c.line); many > 0 && (next(3) > 0 || many > 9) {
				s = carryStep([]int{impl.CaTake, impl.CaTake, impl.CaTake, impl.CaTwice}[next(4)], next(many))
			}
			if !c.do(s) && len(c.line) == 0 {
				break
			}
			l = append(l, s)
		}
		if slices.ContainsFunc(c.all, func(x parcel) bool { return x.final == 0 }) {
			continue
		}
		got, _, _ := impl.PlayCarrier(l)
		x, y := wantAllInTimeHad(t, l, got)
		had, gone, ended = had+x, gone+y, ended+1
	}
	if ended < 1000 || had < 1000 || gone < 1000 {
		t.Error("too few come to an end, are had, or gone:", ended, had, gone)
	}
}

// TestPartByPartInTime has each part sent, taken and heard of in turn, as one after the other comes first.
func TestPartByPartInTime(t *testing.T) {
	next := shaker(173)
	for range 500 {
		l := shakenSubmits(9, next)
		played := l
		for len(played) <= impl.MaxCarrySteps-3 {
			played = append(played[:len(played):len(played)], carryStepsIn("s t0 t0")...)
		}
		got, _, _ := impl.PlayCarrier(played)
		wantAllInTimeHad(t, played, got)
		settled, _, _ := impl.SettleCarrier(l)
		if had, gone := wantAllInTimeHad(t, l, settled); had+gone != len(got.Outs) || !sameCarrier(got, settled) {
			t.Errorf("SettleCarrier(%v): %s, not %s", l, shown(settled), shown(got))
		}
	}
}

func TestCarriersSettledByHand(t *testing.T) {
	for _, x := range []struct {
		steps, want string
		many        int
	}{
		{"", "0 | | | | [] | | []", 0},
		{"k k", "2 | | | | [] | | []", 0},
		{"b5:abcdef", "0 | abcdef/5/+./1 | | | [0] | 0=abcdef@0 | []", 2},
		{"b5:abcdef s w0", "0 | abcdef/5/+./1 | | | [0] | 0=abcdef@0 | []", 2},
		{"b5:abcdef s t0", "0 | abcdef/5/+./1 | | | [0] | 0=abcdef@0 | []", 2},
		{"b5:abcdef s t0 t0", "0 | abcdef/5/+./1 | | | [0] | 0=abcdef@0 | []", 1},
		{"b5:abcdef s t0 t0 s t0 k l0", "1 | abcdef/5/+./1 | | | [0] | 0=abcdef@0 | []", 1},
		{"b5:abcdef s w0 t0 t1 s w1 w1 t1 t3", "0 | abcdef/5/+./1 | >0@0/6:abcd=5 >0@4/6:ef=5 >0@4/6:ef=5 | | [0] | 0=abcdef@0 | []", 0},
		{"b5:ab s w0 t0 t1", "0 | ab/5/./1 | >0@0/2:ab=5 | | [0] | 0=ab@0 | []", 0},
		{"b0:ab k", "1 | ab/0/./2 | | | [] | | [0]", 1},
		{"b1:ab k", "1 | ab/1/./1 | | | [0] | 0=ab@1 | []", 1},
		{"b1:ab k s t0 l0 k k", "3 | ab/1/./1 | | | [0] | 0=ab@1 | []", 1},
		{"b1:abcdef s t0 t0 k k", "2 | abcdef/1/+./2 | | 0/6:abcd~~[{0 4}] | [] | | [0]", 1},
		{"b9:abcdefghi b3:xy b3:z", "0 | abcdefghi/9/++./1 xy/3/./1 z/3/./1 | | | [0 1 2] | 1=xy@0 2=z@0 0=abcdefghi@0 | []", 5},
		{"b3:abcde b1:xy b0:z k k", "2 | abcde/3/+./1 xy/1/./2 z/0/./2 | | | [0] | 0=abcde@2 | [2 1]", 4},
	} {
		got, many, ok := impl.SettleCarrier(carryStepsIn(x.steps))
		if !ok || many != x.many || shown(got) != x.want {
			t.Errorf("SettleCarrier(%s): %s, %d, %t, not %s, %d", x.steps, shown(got), many, ok, x.want, x.many)
		}
	}
	// As many and as long ones as may be, and a full Line.
	var l []impl.CarryStep
	for k := range mostOuts {
		l = append(l, submit(counted(impl.MaxBlock, 20*k), 100-k))
	}
	for _, more := range []string{"", "s", "s " + script("w0", 29), "s t0 " + script("w0", 29), script("k", 94)} {
		steps := append(slices.Clone(l), carryStepsIn(more)...)
		if _, many, ok := impl.SettleCarrier(steps); many != 60 || !ok {
			t.Errorf("SettleCarrier with %s: %d, %t", more, many, ok)
		}
		wantFinals(t, steps, 1, 1, 1, 1, 1, 1)
	}
}

func TestCarriersSettledHadAndFinal(t *testing.T) {
	counts := map[int]int{}
	for _, l := range carriersToPlay(120) {
		c, _ := carted(l)
		for id := -2; id <= mostOuts+1; id++ {
			if slices.Contains(c.had, id) {
				wantHad(t, l, id, c.all[id].text, true)
			} else {
				wantHad(t, l, id, "", false)
			}
		}
		for _, far := range farInts {
			wantHad(t, l, far, "", false)
		}
		many := c.settle()
		counts[min(many, 15)]++
		var finals []int
		for _, x := range c.all {
			finals = append(finals, x.said)
		}
		wantCarrierSettled(t, l, c.carrier(), many)
		wantFinals(t, l, finals...)
		if slices.Contains(finals, impl.VdNone) {
			t.Errorf("not settled: %v", l)
		}
	}
	for many := range 16 {
		if counts[many] < 3 {
			t.Error("too few are settled so often:", many, counts)
		}
	}
}

func TestPartsPickedByHand(t *testing.T) {
	for _, x := range []struct {
		outs      string
		k, number int
		is        bool
	}{
		{"", 0, 0, false}, {"ab/5/./n", 0, 0, true}, {"ab/5/+/n", 0, 0, false}, {"ab/5/./g", 0, 0, false}, {"ab/5/./o", 0, 0, false},
		{"abcdefghi/0/+../n", 0, 1, true}, {"abcdefghi/100/++./n", 0, 2, true}, {"abcdefghi/100/.++/n", 0, 0, true}, {"abcdefghi/100/+.+/n", 0, 1, true},
		{"ab/5/./n cd/4/./n", 1, 0, true}, {"ab/5/./n cd/5/./n", 0, 0, true}, {"ab/5/./n cd/6/./n", 0, 0, true},
		{"ab/5/./n cd/4/+/n", 0, 0, true}, {"ab/5/./n cd/4/./g", 0, 0, true}, {"ab/5/./n cd/4/./o", 0, 0, true}, {"ab/5/+/n cd/6/./g e/7/./n", 2, 0, true},
		{"a/9/./n b/8/./n c/8/./n abcdefgh/7/+./n e/7/./n f/100/./n", 3, 1, true}, {"a/9/+/n b/8/./g c/8/./o", 0, 0, false},
	} {
		wantPicked(t, outsIn(x.outs), x.k, x.number, x.is)
	}
}

func TestDueByHand(t *testing.T) {
	for _, x := range []struct {
		outs string
		now  int
		due  int
	}{
		{"", 0, 0}, {"", 200, 0}, {"ab/0/./n", 0, 1}, {"ab/100/./n", 200, 1}, {"ab/100/./n", 99, 0},
		{"abcdefghi/5/+../n", 4, 0}, {"abcdefghi/5/+../n", 5, 2}, {"abcdefghi/5/+../n", 6, 2}, {"abcdefghi/5/+../n", 200, 2},
		{"abcdefghi/5/+../g", 5, 0}, {"abcdefghi/5/.../o", 6, 0}, {"abcdefghi/5/+++/n", 6, 0}, {"abcdefghi/5/.../n", 6, 3},
		{"ab/5/./n abcdefgh/6/../n cd/7/./n", 5, 1}, {"ab/5/./n abcdefgh/6/../n cd/7/./n", 6, 3}, {"ab/5/./n abcdefgh/6/.+/n cd/7/./g", 7, 2},
	} {
		wantDue(t, outsIn(x.outs), x.now, x.due)
		for _, now := range append([]int{-1, -2, 201, 202}, farInts...) {
			wantNoDue(t, outsIn(x.outs), now)
		}
	}
	var l []impl.Out
	for range mostOuts {
		l = append(l, impl.Out{Text: counted(40, 0), End: 100, Heard: make([]bool, 10)})
	}
	wantDue(t, l, 100, 60)
	wantDue(t, l, 99, 0)
}

// smallOuts are all outs of one part and of two that end at 0 or 1.
func smallOuts() []impl.Out {
	var all []impl.Out
	for _, short := range strings.Fields("a/0/./ a/1/./ a/0/+/ a/1/+/ abcde/0/../ abcde/1/../ abcde/0/+./ abcde/1/.+/ abcde/0/++/ abcde/1/++/") {
		all = append(all, outIn(short+"n"), outIn(short+"g"), outIn(short+"o"))
	}
	return all
}

func TestPickedAndDueOfAnyOuts(t *testing.T) {
	var lists [][]impl.Out
	for _, a := range smallOuts() {
		for _, b := range smallOuts() {
			lists = append(lists, []impl.Out{a, b})
			for _, c := range smallOuts() {
				lists = append(lists, []impl.Out{a, b, c})
			}
		}
	}
	next := shaker(174)
	for range 4000 {
		lists = append(lists, shakenOuts(mostOuts, next))
	}
	for _, l := range lists {
		k, number, is := pickedOf(l)
		wantPicked(t, l, k, number, is)
		if !impl.GoodOuts(l) {
			t.Errorf("GoodOuts(%v)", l)
		}
		for _, x := range l[:min(len(l), 2)] {
			for now := max(0, x.End-1); now <= x.End+1; now++ {
				wantDue(t, l, now, dueBy(l, now))
			}
		}
		wantDue(t, l, 200, dueBy(l, 200))
	}
}

func wrongOuts() []impl.Out {
	l := []impl.Out{{}, {Heard: []bool{false}}, {Text: counted(41, 0), Heard: make([]bool, 11)}, {Text: counted(41, 0), Heard: make([]bool, 10)}, {Text: strings.Repeat("a", 100000), Heard: make([]bool, 25000)}}
	for _, long := range []int{1, 3, 4, 5, 8, 9, 39, 40} {
		for _, many := range []int{0, (long+3)/4 - 1, (long+3)/4 + 1, long/4 + 2, 1000} {
			l = append(l, impl.Out{Text: counted(long, 200), End: 5, Heard: make([]bool, many)})
		}
	}
	for _, end := range append([]int{-1, -2, 101, 102, 200}, farInts...) {
		l = append(l, impl.Out{Text: "ab", End: end, Heard: []bool{false}}, impl.Out{Text: "\xff\x80", End: end, Heard: []bool{true}, Final: 1})
	}
	for _, final := range append([]int{-1, -2, 3, 4}, farInts...) {
		l = append(l, impl.Out{Text: "ab", End: 7, Heard: []bool{false}, Final: final}, impl.Out{Text: "ab", Heard: []bool{true}, Final: final})
	}
	return l
}

func TestWrongOutsAreRefused(t *testing.T) {
	good := outsIn("a/9/./n b/8/./g abcde/100/+./o d/0/./n")
	for _, x := range wrongOuts() {
		wantNoOuts(t, []impl.Out{x})
		for k := range len(good) + 1 {
			wantNoOuts(t, slices.Insert(slices.Clone(good), k, x))
		}
	}
	for _, many := range []int{7, 8, 30, 1000} {
		wantNoOuts(t, slices.Repeat(good[:1], many))
		wantNoOuts(t, make([]impl.Out, many))
	}
}

func TestOutsWithinTheirLimitsAreGood(t *testing.T) {
	for _, x := range []impl.Out{{Text: "a"}, {Text: "\x00"}, {Text: "\xff\x80", End: 100, Final: 2}, {Text: counted(40, 200), Final: 1}, {Text: "abcd"}, {Text: "abcde", End: 1}} {
		x.Heard = make([]bool, len(cutOf(0, x.Text)))
		for many := range mostOuts + 1 {
			if !impl.GoodOuts(slices.Repeat([]impl.Out{x}, many)) {
				t.Errorf("GoodOuts of %d times %v", many, x)
			}
		}
	}
	next := shaker(175)
	counts := map[bool]int{}
	for range 8000 {
		l := outChanged(append(shakenOuts(mostOuts, next), outIn("ab/9/./n")), next)
		want := len(l) <= mostOuts
		for _, x := range l {
			want = want && x.Text != "" && len(x.Text) <= 40 && x.End >= 0 && x.End <= lastOutEnd && len(x.Heard) == len(cutOf(0, x.Text)) && x.Final >= 0 && x.Final <= 2
		}
		counts[want]++
		if impl.GoodOuts(l) != want {
			t.Errorf("GoodOuts(%v): %t", l, !want)
		}
	}
	if counts[true] < 1000 || counts[false] < 1000 {
		t.Error("too few are good, or wrong:", counts)
	}
}

// outChanged changes one thing by a little: what comes of it may be good or not.
func outChanged(l []impl.Out, next func(upto int) int) []impl.Out {
	x := &l[next(len(l))]
	switch next(5) {
	case 0:
		x.End += next(3) - 1
	case 1:
		x.Final += next(3) - 1
	case 2:
		x.Heard = append(x.Heard, true)[next(2):]
	case 3:
		x.Text = x.Text[1:]
	case 4:
		x.Text += "x"
	}
	return l
}

func TestWrongCarryStepsChangeNothing(t *testing.T) {
	wrong := []impl.CarryStep{{}, {Text: "a"}, {Kind: 7}, {Kind: 8, K: 1}, {Kind: -1}, submit("", 9), submit("", 100)}
	for _, far := range farInts {
		wrong = append(wrong, carryStep(far, 0), impl.CarryStep{Kind: far, K: 9, Text: "a"}, submit("a", far), carryStep(impl.CaTake, far), carryStep(impl.CaSend, far))
	}
	for kind := impl.CaSend; kind <= impl.CaTick; kind++ {
		for k := -1; k <= 3; k++ {
			wrong = append(wrong, impl.CarryStep{Kind: kind, K: k, Text: "a"}, impl.CarryStep{Kind: kind, K: k, Text: "\x00"}, impl.CarryStep{Kind: kind, K: k, Text: counted(50, 0)})
		}
	}
	for _, steps := range []string{"", "b9:abcdef", "b9:abcdef s s w0 t0", "b9:abcdef s w0 t0 t1 s w1", "b0:ab b1:c s t0 k k", "b9:ab s " + script("w0", 29)} {
		wantNothingDone(t, carryStepsIn(steps), wrong...)
	}
	wantNothingDone(t, carryStepsIn("b9:ab s s"), carryStep(impl.CaTake, 2), carryStep(impl.CaLose, 2), carryStep(impl.CaTwice, 2), carryStep(impl.CaTake, -1))
}

// wreckedCarrier writes all over an answer, as far as its memory goes.
func wreckedCarrier(t *testing.T, what string, c impl.Carrier) {
	t.Helper()
	wrecked(t, what, c.Line, impl.Frame{What: -7})
	wrecked(t, what, c.Had, impl.Got{Id: -7})
	wrecked(t, what, c.Gone, hiddenNumber)
	wreckedStore(t, what, c.Store)
	whole := c.Outs[:cap(c.Outs)]
	for k, x := range whole {
		heard := x.Heard[:cap(x.Heard)]
		if k >= len(c.Outs) && !sameOut(x, impl.Out{}) || slices.Contains(heard[len(x.Heard):], true) {
			t.Errorf("%s: %v is left behind the answer's length", what, x)
		}
		for n := range heard {
			heard[n] = !heard[n]
		}
		whole[k] = impl.Out{End: -1}
	}
}

func textsInCarrier(c impl.Carrier) []string {
	l := textsOf(c.Store)
	for _, x := range c.Outs {
		l = append(l, x.Text)
	}
	for _, f := range c.Line {
		l = append(l, f.Part.Text)
	}
	for _, x := range c.Had {
		l = append(l, x.Text)
	}
	return l
}

func TestCarryStepsAreNotWrittenInto(t *testing.T) {
	plays := append(carriersToPlay(12), nil, make([]impl.CarryStep, 101), carryStepsIn("b9:abcdef s t0 t0 s t0 t0"))
	for _, were := range plays {
		for _, hidden := range []impl.CarryStep{{Kind: -7, K: -7, Text: hiddenPiece}, carryStep(impl.CaTick, 0), submit("hidden", 100)} {
			wantCarryingUntouched(t, withHidden(were, hidden), were, hidden)
		}
	}
}

func wantCarryingUntouched(t *testing.T, given, were []impl.CarryStep, hidden impl.CarryStep) {
	t.Helper()
	var texts []string
	for _, s := range were {
		texts = append(texts, s.Text)
	}
	got, did, ok := impl.PlayCarrier(given)
	settled, many, fine := impl.SettleCarrier(given)
	finals, _ := impl.FinalsOf(given)
	had, is, _ := impl.HadOf(given, 0)
	again, didAgain, _ := impl.PlayCarrier(given)
	settledAgain, _, _ := impl.SettleCarrier(given)
	finalsAgain, _ := impl.FinalsOf(given)
	plain, plainDid, same := impl.PlayCarrier(slices.Clone(were))
	plainSettled, plainMany, alike := impl.SettleCarrier(slices.Clone(were))
	plainHad, plainIs, _ := impl.HadOf(slices.Clone(were), 0)
	plainFinals, _ := impl.FinalsOf(slices.Clone(were))
	if !sameCarrier(got, plain) || !slices.Equal(did, plainDid) || ok != same || !sameCarrier(settled, plainSettled) || many != plainMany || fine != alike || had != plainHad || is != plainIs {
		t.Errorf("%v hangs on what lies behind it", were)
	}
	for _, text := range slices.Concat(textsInCarrier(got), textsInCarrier(settled), []string{had}) {
		wantOwnTexts(t, "PlayCarrier", []string{text}, texts...)
	}
	wreckedCarrier(t, "PlayCarrier", got)
	wreckedCarrier(t, "SettleCarrier", settled)
	wrecked(t, "FinalsOf", finals, hiddenNumber)
	for k := range did[:cap(did)] {
		did[:cap(did)][k] = k%2 == 0
	}
	wantUnchanged(t, "PlayCarrier", given, were, hidden)
	if !sameCarrier(again, plain) || !slices.Equal(didAgain, plainDid) || !sameCarrier(settledAgain, plainSettled) || !slices.Equal(finalsAgain, plainFinals) {
		t.Errorf("PlayCarrier(%v): two answers share memory", were)
	}
}

func TestOutsAreNotWrittenInto(t *testing.T) {
	next := shaker(176)
	lists := [][]impl.Out{nil, {}, {{}}, outsIn("ab/5/./n"), outsIn("ab/5/./g abcdefgh/3/+./n")}
	for range 200 {
		lists = append(lists, shakenOuts(mostOuts, next))
	}
	for _, x := range wrongOuts()[:30] {
		lists = append(lists, []impl.Out{outIn("ab/5/./n"), x})
	}
	for k, were := range lists {
		hidden, mark := []impl.Out{{Text: hiddenPiece, End: -7, Final: -7}, outIn("zz/0/./n")}[k%2], k%3 == 0
		given := withHidden(were, hidden)
		for n := range given {
			given[n].Heard = withHidden(were[n].Heard, mark)
		}
		out, at, is, ok := impl.PickPart(given)
		if k, number, some, fine := impl.PickPart(were); impl.GoodOuts(given) != impl.GoodOuts(were) || out != k || at != number || is != some || ok != fine {
			t.Errorf("%v hangs on what lies behind it", were)
		}
		due, ok := impl.DueIn(given, 60)
		if n, fine := impl.DueIn(were, 60); due != n || ok != fine {
			t.Errorf("DueIn(%v) hangs on what lies behind it", were)
		}
		for n, x := range given[:cap(given)] {
			if n >= len(were) && !sameOut(x, hidden) || n < len(were) && !sameOut(x, were[n]) {
				t.Fatalf("out %d of %v has become %v", n, were, x)
			}
		}
		for n := range given {
			wantUnchanged(t, "GoodOuts, PickPart, DueIn", given[n].Heard, were[n].Heard, mark)
		}
	}
}

// wantListsApart marks each list in turn, and looks whether another one is marked too.
func wantListsApart[E comparable](t *testing.T, what string, mark E, lists ...[]E) {
	t.Helper()
	for k := range lists {
		lists[k] = lists[k][:cap(lists[k])]
		clear(lists[k])
	}
	for k, l := range lists {
		for at := range l {
			l[at] = mark
		}
		for other, m := range lists {
			if other != k && slices.Contains(m, mark) {
				t.Errorf("%s: two lists share memory", what)
			}
		}
		clear(l)
	}
}

func TestListsOfCarriersAreApart(t *testing.T) {
	for _, l := range append(carriersToPlay(25), nil) {
		a, did, _ := impl.PlayCarrier(l)
		b, didAgain, _ := impl.PlayCarrier(l)
		c, _, _ := impl.SettleCarrier(l)
		d, _, _ := impl.SettleCarrier(l)
		finals, _ := impl.FinalsOf(l)
		finalsAgain, _ := impl.FinalsOf(l)
		heards, numbers := [][]bool{did, didAgain}, [][]int{finals, finalsAgain}
		var spans [][]impl.Span
		for _, x := range []impl.Carrier{a, b, c, d} {
			numbers = append(numbers, x.Gone, x.Store.Told)
			for _, out := range x.Outs {
				heards = append(heards, out.Heard)
			}
			for _, block := range x.Store.Blocks {
				spans = append(spans, block.Has)
			}
		}
		wantListsApart(t, "PlayCarrier: Heard, done", true, heards...)
		wantListsApart(t, "PlayCarrier: Gone, Told", hiddenNumber, numbers...)
		wantListsApart(t, "PlayCarrier: Has", secret, spans...)
		wantListsApart(t, "PlayCarrier: Line", impl.Frame{What: -7}, a.Line, b.Line, c.Line, d.Line)
		wantListsApart(t, "PlayCarrier: Had", impl.Got{Id: -7}, a.Had, b.Had, c.Had, d.Had)
	}
}

func TestNilAndEmptyListsOfCarriersAreAlike(t *testing.T) {
	for _, l := range [][]impl.Out{nil, {}} {
		wantPicked(t, l, 0, 0, false)
		wantDue(t, l, 0, 0)
		if !impl.GoodOuts(l) {
			t.Errorf("GoodOuts(%v)", l)
		}
		wantNoDue(t, l, 201)
	}
	for _, heard := range [][]bool{nil, {}} {
		wantNoOuts(t, []impl.Out{{Text: "a", Heard: heard}})
		wantNoOuts(t, []impl.Out{{Heard: heard}})
	}
}

func TestCarriersHangOnWhatIsGivenAlone(t *testing.T) {
	l := carryStepsIn("b9:abcdef b3:ab s t0 t0 s t0 k s")
	c, done := carted(l)
	want := c.carrier()
	rounds := c.settle()
	for range 20 {
		wantCarrier(t, l, want, done)
		wantNoCarrier(t, make([]impl.CarryStep, 101))
		wantCarrierSettled(t, l, c.carrier(), rounds)
		wantNothingDone(t, l, carryStep(impl.CaTake, 9), carryStep(0, 0))
		wantFinals(t, l, 1, 1)
		wantHad(t, l, 1, "ab", true)
		wantHad(t, l, 0, "", false)
	}
}
