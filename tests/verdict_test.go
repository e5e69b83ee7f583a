package tests

import (
	"fmt"
	"math"
	"slices"
	"strconv"
	"strings"
	"testing"

	"loop.example/g00527/impl"
)

const (
	lastCaseEnd = 100
	lastNow     = 200
)

func ofPart(k int) impl.Slip {
	return impl.Slip{Kind: impl.NtPart, Case: k}
}

func ofDrop(k int) impl.Slip {
	return impl.Slip{Kind: impl.NtDrop, Case: k}
}

func saidGot(k int) impl.Slip {
	return impl.Slip{Kind: impl.NtSaid, Case: k, What: impl.VdGot}
}

func saidGone(k int) impl.Slip {
	return impl.Slip{Kind: impl.NtSaid, Case: k, What: impl.VdGone}
}

func courtStep(kind, k int) impl.CourtStep {
	return impl.CourtStep{Kind: kind, K: k}
}

// caseIn reads a case that is written short: its End, a for one that Asks, and what is Said (. none, + got, - gone), twice where it is Final.
func caseIn(text string) impl.Case {
	marks := strings.TrimLeft(text, "0123456789")
	end, _ := strconv.Atoi(strings.TrimSuffix(text, marks))
	verdicts := strings.TrimPrefix(marks, "a")
	c := impl.Case{End: end, Asks: verdicts != marks, Said: strings.IndexByte(".+-", verdicts[0])}
	if len(verdicts) == 2 {
		c.Final = c.Said
	}
	return c
}

func courtIn(now int, cases string, line ...impl.Slip) impl.Court {
	c := impl.Court{Now: now, Line: line}
	for _, text := range strings.Fields(cases) {
		c.Cases = append(c.Cases, caseIn(text))
	}
	return c
}

func withSlips(c impl.Court, line ...impl.Slip) impl.Court {
	c.Line = line
	return c
}

func withCases(c impl.Court, cases ...impl.Case) impl.Court {
	c.Cases = cases
	return c
}

// courtStepsIn reads steps that are written short: send, drop, take, lose, twice (w) and tick (k), with their K.
func courtStepsIn(script string) []impl.CourtStep {
	var l []impl.CourtStep
	for _, word := range strings.Fields(script) {
		k, _ := strconv.Atoi(word[1:])
		l = append(l, courtStep(1+strings.IndexByte("sdtlwk", word[0]), k))
	}
	return l
}

func sameCourt(a, b impl.Court) bool {
	return a.Now == b.Now && slices.Equal(a.Cases, b.Cases) && slices.Equal(a.Line, b.Line)
}

func isNoCourt(c impl.Court) bool {
	return sameCourt(c, impl.Court{})
}

// The ones from here on are written apart from the program, to be held against it.

// docket is a case by what has come of it to the receiver, in order, the end of the time among these: the first one decides. What is said is written down nowhere else.
type docket struct {
	end   int
	asks  bool
	heard bool
	came  string
}

type passing struct{ kind, of int }

type bench struct {
	now  int
	all  []docket
	line []passing
}

func (d docket) said() int {
	switch {
	case strings.HasPrefix(d.came, "part"):
		return 1
	case d.came != "":
		return 2
	}
	return 0
}

func benchOf(c impl.Court) bench {
	b := bench{now: c.Now}
	for _, x := range c.Cases {
		came := map[int]string{1: "part ", 2: "drop "}[x.Said]
		b.all = append(b.all, docket{end: x.End, asks: x.Asks, heard: x.Final != 0, came: came})
	}
	for _, s := range c.Line {
		b.line = append(b.line, passing{s.Kind, s.Case})
	}
	return b
}

func (b bench) court() impl.Court {
	c := impl.Court{Now: b.now}
	for _, d := range b.all {
		x := impl.Case{End: d.end, Asks: d.asks, Said: d.said()}
		if d.heard {
			x.Final = d.said()
		}
		c.Cases = append(c.Cases, x)
	}
	for _, p := range b.line {
		s := impl.Slip{Kind: p.kind, Case: p.of}
		if p.kind == impl.NtSaid {
			s.What = b.all[p.of].said()
		}
		c.Line = append(c.Line, s)
	}
	return c
}

func (b bench) copied() bench {
	return bench{b.now, slices.Clone(b.all), slices.Clone(b.line)}
}

func (b *bench) pass(p passing) {
	if len(b.line) < 30 {
		b.line = append(b.line, p)
	}
}

func (b *bench) gone(at int) passing {
	p := b.line[at]
	b.line = slices.Concat(b.line[:at], b.line[at+1:])
	return p
}

func (b bench) waitsFor(k int) bool {
	return 0 <= k && k < len(b.all) && !b.all[k].heard
}

func (b bench) passes(at int) bool {
	return 0 <= at && at < len(b.line)
}

func (b bench) after(s impl.CourtStep) (bench, bool) {
	b = b.copied()
	switch {
	case s.Kind == 1 && b.waitsFor(s.K) && b.all[s.K].asks:
		b.pass(passing{2, s.K})
	case s.Kind == 1 && b.waitsFor(s.K):
		b.pass(passing{1, s.K})
	case s.Kind == 2 && b.waitsFor(s.K) && !b.all[s.K].asks:
		b.all[s.K].asks = true
	case s.Kind == 3 && b.passes(s.K):
		b.reach(b.gone(s.K))
	case s.Kind == 4 && b.passes(s.K):
		b.gone(s.K)
	case s.Kind == 5 && b.passes(s.K) && len(b.line) < 30:
		b.pass(b.line[s.K])
	case s.Kind == 6 && s.K == 0 && b.now < lastNow:
		b.tick()
	default:
		return bench{}, false
	}
	return b, true
}

func (b *bench) reach(p passing) {
	d := &b.all[p.of]
	switch p.kind {
	case 1:
		d.came += "part "
	case 2:
		d.came += "drop "
	case 3:
		d.heard = true
		return
	}
	b.pass(passing{3, p.of})
}

func (b *bench) tick() {
	b.now++
	for k := range b.all {
		if b.now > b.all[k].end {
			b.all[k].came += "time "
		}
	}
}

func courtPlayed(ends []int, l []impl.CourtStep) (impl.Court, []bool) {
	var b bench
	for _, end := range ends {
		b.all = append(b.all, docket{end: end})
	}
	var done []bool
	for _, s := range l {
		next, ok := b.after(s)
		if ok {
			b = next
		}
		done = append(done, ok)
	}
	return b.court(), done
}

// settledByBench gives each case that is not settled what is said of it, or what its next slip has said.
func settledByBench(c impl.Court) (impl.Court, int) {
	b := benchOf(c)
	many := 0
	for k, d := range b.all {
		if d.heard {
			continue
		}
		many++
		b.line = nil
		b.all[k].heard = true
		if d.asks {
			b.all[k].came += "drop "
		} else {
			b.all[k].came += "part "
		}
	}
	return b.court(), many
}

// isGoodBench holds a court against what a bench makes of it: what a bench has not written down can only be told in one way.
func isGoodBench(c impl.Court) bool {
	if len(c.Cases) > 6 || len(c.Line) > 30 || c.Now < 0 || c.Now > lastNow {
		return false
	}
	b := benchOf(c)
	for _, d := range b.all {
		if d.end < 0 || d.end > lastCaseEnd || d.came == "" && (d.heard || c.Now > d.end) {
			return false
		}
	}
	for _, p := range b.line {
		if p.kind < 1 || p.kind > 3 || p.of < 0 || p.of >= len(b.all) || p.kind == 3 && b.all[p.of].came == "" {
			return false
		}
	}
	return sameCourt(c, b.court())
}

func shakenEnds(many, most int, next func(upto int) int) []int {
	var ends []int
	for range many {
		ends = append(ends, next(most+1))
	}
	return ends
}

// shakenCourtSteps are mixed by kind; most cases and slips that they name are there.
func shakenCourtSteps(many, kind int, ends []int, next func(upto int) int) []impl.CourtStep {
	mixes := []string{"sdtlwk", "ssstttttk", "ssdtttwwk", "sssdtttllwwk", "sswwwtttd", "sdttwwwk", "ssssttttwwdlk", "kkkkkkkst", "ssssdwwk"}
	mix := mixes[kind%len(mixes)]
	b := benchOf(courtOfEnds(ends))
	var l []impl.CourtStep
	for range many {
		s := courtStep(1+strings.IndexByte("sdtlwk", mix[next(len(mix))]), 0)
		switch s.Kind {
		case impl.CoSend, impl.CoDrop:
			s.K = next(max(1, len(ends)))
		case impl.CoTake, impl.CoLose, impl.CoTwice:
			s.K = next(max(1, len(b.line)))
		}
		if next(40) == 0 {
			s.K = next(34) - 2
		}
		if after, ok := b.after(s); ok {
			b = after
		}
		l = append(l, s)
	}
	return l
}

func courtOfEnds(ends []int) impl.Court {
	c, _ := courtPlayed(ends, nil)
	return c
}

type courtPlay struct {
	ends  []int
	steps []impl.CourtStep
}

func courtPlaysToTry(each int) []courtPlay {
	next := shaker(161)
	var all []courtPlay
	for _, many := range []int{3, 12, 40, impl.MaxCourtSteps - 1, impl.MaxCourtSteps} {
		for k := range each {
			// Ends that are near are passed in the middle of the play, others never.
			ends := shakenEnds([]int{1, 2, 3, 6, 0}[next(17)/4], []int{4, 20, lastCaseEnd}[next(3)], next)
			all = append(all, courtPlay{ends, shakenCourtSteps(many, k, ends, next)})
		}
	}
	return all
}

// shakenCourt has lists that are short, or as long as they may be, and a clock at either end, near the Ends, or anywhere.
func shakenCourt(next func(upto int) int) impl.Court {
	b := bench{now: []int{0, next(3), next(30), 90 + next(20), lastNow - next(3), next(lastNow + 1)}[next(6)]}
	for range []int{1 + next(3), next(7), 6}[next(3)] {
		end := []int{next(lastCaseEnd + 1), min(lastCaseEnd, max(0, b.now+next(5)-2))}[next(2)]
		d := docket{end: end, asks: next(3) == 0, came: []string{"", "part ", "drop "}[next(3)]}
		if d.came == "" && b.now > end {
			d.came = "time "
		}
		d.heard = d.came != "" && next(2) == 0
		b.all = append(b.all, d)
	}
	for range []int{next(5), next(5), 28 + next(3)}[next(3)] {
		if len(b.all) == 0 {
			break
		}
		p := passing{1 + next(3), next(len(b.all))}
		if b.all[p.of].came == "" {
			p.kind = 1 + next(2)
		}
		b.line = append(b.line, p)
	}
	return b.court()
}

func courtsToTry(each int) []impl.Court {
	next := shaker(162)
	full := slices.Repeat([]impl.Slip{ofPart(0), ofDrop(0), saidGot(1)}, 10)
	all := []impl.Court{
		{}, {Now: 200}, {Now: 199}, courtIn(0, "0. 100. 0a. 100a. 5+ 5-"), courtIn(200, "0- 100+ 0a-- 100a++ 5+ 5--"),
		courtIn(3, "3. 5+", full...), courtIn(100, "100. 100++", full[1:]...), courtIn(7, "9a. 2++", full[2:]...),
	}
	for range each {
		all = append(all, shakenCourt(next))
	}
	return all
}

// courtStepsFor are steps of each kind, and of none, with every K that may be done, and some beyond.
func courtStepsFor(c impl.Court) []impl.CourtStep {
	var l []impl.CourtStep
	for kind := -1; kind <= 8; kind++ {
		for k := -2; k <= max(len(c.Line), len(c.Cases))+2; k++ {
			l = append(l, courtStep(kind, k))
		}
		l = append(l, courtStep(kind, math.MinInt), courtStep(kind, math.MaxInt))
	}
	for _, far := range farInts {
		l = append(l, courtStep(far, 0), courtStep(far, 1), courtStep(impl.CoTake, far), courtStep(impl.CoSend, far), courtStep(impl.CoTick, far))
	}
	return l
}

func wantCourtStep(t *testing.T, c impl.Court, s impl.CourtStep, want impl.Court) {
	t.Helper()
	if got, ok := impl.StepCourt(c, s); !ok || !sameCourt(got, want) {
		t.Errorf("StepCourt(%v, %v): %v, %t, not %v", c, s, got, ok, want)
	}
}

func wantNoCourtStep(t *testing.T, c impl.Court, s impl.CourtStep) {
	t.Helper()
	if got, ok := impl.StepCourt(c, s); ok || !isNoCourt(got) {
		t.Errorf("StepCourt(%v, %v): %v, %t", c, s, got, ok)
	}
}

// wantCourtStepAs holds a step of a good court against what was written apart, looks whether what comes of it is good, and gives it.
func wantCourtStepAs(t *testing.T, c impl.Court, s impl.CourtStep) (impl.Court, bool) {
	t.Helper()
	b, can := benchOf(c).after(s)
	got, ok := impl.StepCourt(c, s)
	if ok != can || !sameCourt(got, b.court()) {
		t.Errorf("StepCourt(%v, %v): %v, %t, not %v, %t", c, s, got, ok, b.court(), can)
	}
	if ok && !impl.GoodCourt(got) {
		t.Errorf("StepCourt(%v, %v) is not good: %v", c, s, got)
	}
	return got, ok
}

func wantNewCourt(t *testing.T, ends []int, want impl.Court) {
	t.Helper()
	if got, ok := impl.NewCourt(ends); !ok || !sameCourt(got, want) || !impl.GoodCourt(got) {
		t.Errorf("NewCourt(%v): %v, %t, not %v", ends, got, ok, want)
	}
}

func wantNoNewCourt(t *testing.T, ends []int) {
	t.Helper()
	if got, ok := impl.NewCourt(ends); ok || !isNoCourt(got) {
		t.Errorf("NewCourt(%v): %v, %t", ends, got, ok)
	}
	for _, l := range [][]impl.CourtStep{nil, courtStepsIn("s0 t0 k"), make([]impl.CourtStep, impl.MaxCourtSteps)} {
		wantNoCourtPlay(t, ends, l)
	}
}

func wantCourtPlay(t *testing.T, ends []int, l []impl.CourtStep, want impl.Court, done []bool) {
	t.Helper()
	if got, did, ok := impl.PlayCourt(ends, l); !ok || !sameCourt(got, want) || !slices.Equal(did, done) {
		t.Errorf("PlayCourt(%v, %v): %v, %v, %t, not %v, %v", ends, l, got, did, ok, want, done)
	}
}

func wantNoCourtPlay(t *testing.T, ends []int, l []impl.CourtStep) {
	t.Helper()
	got, did, ok := impl.PlayCourt(ends, l)
	if ok || len(did) != 0 || !isNoCourt(got) {
		t.Errorf("PlayCourt of %d ends and %d steps: %v, %v, %t", len(ends), len(l), got, did, ok)
	}
}

func wantIsSettled(t *testing.T, c impl.Court, want bool) {
	t.Helper()
	if is, ok := impl.IsSettled(c); is != want || !ok {
		t.Errorf("IsSettled(%v): %t, %t, not %t", c, is, ok, want)
	}
}

func wantCourtSettled(t *testing.T, c, want impl.Court, many int) {
	t.Helper()
	if got, n, ok := impl.SettleCourt(c); !ok || n != many || !sameCourt(got, want) {
		t.Errorf("SettleCourt(%v): %v, %d, %t, not %v, %d", c, got, n, ok, want, many)
	}
}

func wantAgrees(t *testing.T, c impl.Court) {
	t.Helper()
	if is, ok := impl.AgreesIn(c); !is || !ok {
		t.Errorf("AgreesIn(%v): %t, %t", c, is, ok)
	}
}

// wantNoCourt holds all that takes a court to its zero answer.
func wantNoCourt(t *testing.T, c impl.Court) {
	t.Helper()
	if impl.GoodCourt(c) {
		t.Errorf("GoodCourt(%v)", c)
	}
	if is, ok := impl.IsSettled(c); is || ok {
		t.Errorf("IsSettled(%v): %t, %t", c, is, ok)
	}
	if is, ok := impl.AgreesIn(c); is || ok {
		t.Errorf("AgreesIn(%v): %t, %t", c, is, ok)
	}
	if got, n, ok := impl.SettleCourt(c); ok || n != 0 || !isNoCourt(got) {
		t.Errorf("SettleCourt(%v): %v, %d, %t", c, got, n, ok)
	}
	for kind := range 8 {
		for k := range 3 {
			wantNoCourtStep(t, c, courtStep(kind, k))
		}
	}
}

func TestLimitsOfCourts(t *testing.T) {
	if impl.MaxCases != 6 || impl.MaxCourtSteps != 120 || impl.MaxLine != 30 {
		t.Error(impl.MaxCases, impl.MaxCourtSteps, impl.MaxLine)
	}
	if impl.VdNone != 0 || impl.VdGot != 1 || impl.VdGone != 2 {
		t.Error(impl.VdNone, impl.VdGot, impl.VdGone)
	}
	if impl.NtPart != 1 || impl.NtDrop != 2 || impl.NtSaid != 3 {
		t.Error(impl.NtPart, impl.NtDrop, impl.NtSaid)
	}
	steps := []int{impl.CoSend, impl.CoDrop, impl.CoTake, impl.CoLose, impl.CoTwice, impl.CoTick}
	if !slices.Equal(steps, fromBelow(1, 7)) {
		t.Error(steps)
	}
}

func TestNewCourts(t *testing.T) {
	for _, ends := range [][]int{nil, {}, {0}, {100}, {5, 5}, {0, 100}, {100, 0, 50}, {1, 2, 3, 4, 5, 6}, {100, 100, 100, 100, 100, 100}, {0, 0, 0, 0, 0, 0}} {
		want := impl.Court{}
		for _, end := range ends {
			want.Cases = append(want.Cases, impl.Case{End: end})
		}
		wantNewCourt(t, ends, want)
		wantCourtPlay(t, ends, nil, want, nil)
		wantCourtPlay(t, ends, []impl.CourtStep{}, want, []bool{})
	}
	for end := range lastCaseEnd + 1 {
		wantNewCourt(t, []int{end}, courtIn(0, strconv.Itoa(end)+"."))
	}
	for _, wrong := range append([]int{-1, -2, 101, 102, 200}, farInts...) {
		for many := 1; many <= impl.MaxCases; many++ {
			for k := range many {
				ends := slices.Repeat([]int{7}, many)
				ends[k] = wrong
				wantNoNewCourt(t, ends)
			}
		}
	}
	for _, many := range []int{7, 8, 30, 1000, 100000} {
		wantNoNewCourt(t, make([]int, many))
		wantNoNewCourt(t, slices.Repeat([]int{100}, many))
	}
}

func TestVerdictsPlayedByHand(t *testing.T) {
	for _, x := range []struct {
		script, undone string
		want           impl.Court
	}{
		{"s0", "", courtIn(0, "3. 5.", ofPart(0))},
		{"s1 s0", "", courtIn(0, "3. 5.", ofPart(1), ofPart(0))},
		{"s0 t0", "", courtIn(0, "3+ 5.", saidGot(0))},
		{"s0 t0 t0", "", courtIn(0, "3++ 5.")},
		{"d0", "", courtIn(0, "3a. 5.")},
		{"d0 s0", "", courtIn(0, "3a. 5.", ofDrop(0))},
		{"d1 s1 t0", "", courtIn(0, "3. 5a-", saidGone(1))},
		{"d0 s0 t0 t0", "", courtIn(0, "3a-- 5.")},
		{"d0 d0 d1 d1", "13", courtIn(0, "3a. 5a.")},
		// What is Final is neither sent nor asked to be dropped any more.
		{"s0 t0 t0 s0 d0", "34", courtIn(0, "3++ 5.")},
		{"d0 s0 t0 t0 s0 d0", "45", courtIn(0, "3a-- 5.")},
		{"s0 t0 s0 d0 s0", "", courtIn(0, "3a+ 5.", saidGot(0), ofPart(0), ofDrop(0))},
		// A drop behind a part, taken behind it and ahead of it.
		{"s0 d0 s0 t0 t0", "", courtIn(0, "3a+ 5.", saidGot(0), saidGot(0))},
		{"s0 d0 s0 t1 t0", "", courtIn(0, "3a- 5.", saidGone(0), saidGone(0))},
		{"s0 d0 s0 t0 t1", "", courtIn(0, "3a++ 5.", ofDrop(0))},
		{"s0 d0 s0 t0 t1 t0 t0", "", courtIn(0, "3a++ 5.")},
		{"s0 d0 s0 t1 t1 t0", "", courtIn(0, "3a-- 5.", saidGone(0))},
		{"s0 d0 s0 t1 t1 t0 t0", "", courtIn(0, "3a-- 5.")},
		// A part comes once more when all is told.
		{"s0 w0 t0 t1 t0 t0", "", courtIn(0, "3++ 5.")},
		{"s0 w0 d0 s0 l0 t1 t0", "", courtIn(0, "3a- 5.", saidGone(0), saidGone(0))},
		// What is said is lost, and said again as it was.
		{"s0 t0 l0 d0 s0 t0 t0", "", courtIn(0, "3a++ 5.")},
		{"d0 s0 t0 l0 s0 t0 t0", "", courtIn(0, "3a-- 5.")},
		{"s0 l0 d0 s0 t0 t0", "", courtIn(0, "3a-- 5.")},
		// An old NtSaid comes late.
		{"s0 t0 w0 t0 s1 t0 t0", "", courtIn(0, "3++ 5+", saidGot(1))},
		{"s0 t0 w0 w0 k k k k k k t0 t0 t0", "", courtIn(6, "3++ 5-")},
		// The time is over just one tick behind the End.
		{"k k k s0 t0", "", courtIn(3, "3+ 5.", saidGot(0))},
		{"k k k k s0 t0", "", courtIn(4, "3- 5.", saidGone(0))},
		{"s0 k k k k t0 t0", "", courtIn(4, "3-- 5.")},
		{"s0 t0 k k k k t0", "", courtIn(4, "3++ 5.")},
		{"k k k k", "", courtIn(4, "3- 5.")},
		{"k k k k k k", "", courtIn(6, "3- 5-")},
		{"d0 s0 t0 k k k k t0", "", courtIn(4, "3a-- 5.")},
		{"d0 k k k k s0 t0", "", courtIn(4, "3a- 5.", saidGone(0))},
		{"t0 l0 w0 s2 d2 s-1 k1 k-1", "01234567", courtIn(0, "3. 5.")},
		{"s0 t0 t0 t0 w0 l0", "345", courtIn(0, "3++ 5.")},
		{"s0 t1 t-1 l1 w1", "1234", courtIn(0, "3. 5.", ofPart(0))},
	} {
		l := courtStepsIn(x.script)
		done := make([]bool, len(l))
		for k := range done {
			done[k] = !strings.ContainsRune(x.undone, rune('0'+k))
		}
		wantCourtPlay(t, []int{3, 5}, l, x.want, done)
	}
}

func TestSendingByHand(t *testing.T) {
	full := slices.Repeat([]impl.Slip{ofPart(1), ofDrop(0), saidGot(2)}, 10)
	send := func(k int) impl.CourtStep { return courtStep(impl.CoSend, k) }
	c := courtIn(9, "20. 20a. 20+ 20a+ 20- 20a-")
	for k := range c.Cases {
		slip := []impl.Slip{ofPart(k), ofDrop(k)}[k%2]
		wantCourtStep(t, c, send(k), withSlips(c, slip))
		wantCourtStep(t, withSlips(c, saidGot(2), ofPart(k)), send(k), withSlips(c, saidGot(2), ofPart(k), slip))
		wantCourtStep(t, withSlips(c, full[:29]...), send(k), withSlips(c, append(full[:29:29], slip)...))
		// No room for the slip: it is sent all the same.
		wantCourtStep(t, withSlips(c, full...), send(k), withSlips(c, full...))
	}
	final := courtIn(9, "20++ 20a++ 20-- 20a-- 5++ 5a--")
	for k := range final.Cases {
		wantNoCourtStep(t, final, send(k))
		wantNoCourtStep(t, withSlips(final, saidGot(0), ofPart(k), ofDrop(k)), send(k))
	}
	for _, k := range append([]int{-1, -2, 6, 7, 29, 30}, farInts...) {
		wantNoCourtStep(t, withSlips(c, full...), send(k))
	}
	for _, k := range append([]int{-1, 1, 2}, farInts...) {
		wantNoCourtStep(t, courtIn(0, "4.", ofPart(0), ofPart(0), ofPart(0)), send(k))
	}
	wantNoCourtStep(t, impl.Court{}, send(0))
}

func TestDropsAskedByHand(t *testing.T) {
	full := slices.Repeat([]impl.Slip{ofPart(1), ofDrop(0), saidGot(1)}, 10)
	drop := func(k int) impl.CourtStep { return courtStep(impl.CoDrop, k) }
	for _, line := range [][]impl.Slip{nil, {ofPart(0)}, full} {
		c := courtIn(9, "20. 20+ 20-", line...)
		wantCourtStep(t, c, drop(0), courtIn(9, "20a. 20+ 20-", line...))
		wantCourtStep(t, c, drop(1), courtIn(9, "20. 20a+ 20-", line...))
		wantCourtStep(t, c, drop(2), courtIn(9, "20. 20+ 20a-", line...))
		asked := courtIn(9, "20a. 20a+ 20a- 20++ 20-- 20a++", line...)
		for k := range asked.Cases {
			wantNoCourtStep(t, asked, drop(k))
		}
		for _, k := range append([]int{-1, 3, 4, 6, 29}, farInts...) {
			wantNoCourtStep(t, c, drop(k))
		}
	}
	wantNoCourtStep(t, impl.Court{}, drop(0))
}

func TestSlipsTakenByHand(t *testing.T) {
	take := courtStep(impl.CoTake, 0)
	for _, x := range []struct {
		was, slip, is string
		said          impl.Slip
	}{
		{"9.", "part", "9+", saidGot(1)}, {"9.", "drop", "9-", saidGone(1)},
		{"9a.", "part", "9a+", saidGot(1)}, {"9a.", "drop", "9a-", saidGone(1)},
		{"9+", "part", "9+", saidGot(1)}, {"9+", "drop", "9+", saidGot(1)},
		{"9-", "part", "9-", saidGone(1)}, {"9-", "drop", "9-", saidGone(1)},
		{"9++", "part", "9++", saidGot(1)}, {"9++", "drop", "9++", saidGot(1)},
		{"9a--", "part", "9a--", saidGone(1)}, {"9a--", "drop", "9a--", saidGone(1)},
	} {
		slip := map[string]impl.Slip{"part": ofPart(1), "drop": ofDrop(1)}[x.slip]
		was, is := "8. "+x.was+" 5++", "8. "+x.is+" 5++"
		wantCourtStep(t, courtIn(7, was, slip), take, courtIn(7, is, x.said))
		wantCourtStep(t, courtIn(7, was, slip, ofPart(0)), take, courtIn(7, is, ofPart(0), x.said))
		wantCourtStep(t, courtIn(7, was, saidGot(2), slip, ofDrop(0)), courtStep(impl.CoTake, 1), courtIn(7, is, saidGot(2), ofDrop(0), x.said))
		// There is room where the slip was.
		rest := slices.Repeat([]impl.Slip{ofPart(2)}, 29)
		wantCourtStep(t, courtIn(7, was, append(rest[:29:29], slip)...), courtStep(impl.CoTake, 29), courtIn(7, is, append(rest[:29:29], x.said)...))
		wantCourtStep(t, courtIn(7, was, append([]impl.Slip{slip}, rest...)...), take, courtIn(7, is, append(rest[:29:29], x.said)...))
	}
	for _, x := range []struct {
		was, is string
		said    impl.Slip
	}{
		{"9+", "9++", saidGot(1)}, {"9++", "9++", saidGot(1)}, {"9a+", "9a++", saidGot(1)},
		{"9-", "9--", saidGone(1)}, {"9--", "9--", saidGone(1)}, {"9a-", "9a--", saidGone(1)},
	} {
		was, is := "8. "+x.was+" 5+", "8. "+x.is+" 5+"
		wantCourtStep(t, courtIn(7, was, x.said), take, courtIn(7, is))
		wantCourtStep(t, courtIn(7, was, saidGot(2), x.said, ofDrop(0)), courtStep(impl.CoTake, 1), courtIn(7, is, saidGot(2), ofDrop(0)))
		wantCourtStep(t, courtIn(7, was, x.said, x.said), take, courtIn(7, is, x.said))
	}
	// A drop of a case that does not ask for it is taken as any other.
	wantCourtStep(t, courtIn(200, "100+", ofDrop(0)), take, courtIn(200, "100+", saidGot(0)))
}

func TestSlipsLostAndDoubledByHand(t *testing.T) {
	line := []impl.Slip{ofPart(0), saidGot(1), ofDrop(0), saidGone(2), ofPart(1)}
	c := courtIn(3, "9. 8+ 2-", line...)
	for k := range line {
		wantCourtStep(t, c, courtStep(impl.CoLose, k), withSlips(c, slices.Delete(slices.Clone(line), k, k+1)...))
		wantCourtStep(t, c, courtStep(impl.CoTwice, k), withSlips(c, append(slices.Clone(line), line[k])...))
	}
	for _, k := range append([]int{-1, -2, 5, 6, 29, 30}, farInts...) {
		for _, kind := range []int{impl.CoTake, impl.CoLose, impl.CoTwice} {
			wantNoCourtStep(t, c, courtStep(kind, k))
			wantNoCourtStep(t, withSlips(c), courtStep(kind, k))
			wantNoCourtStep(t, withSlips(c), courtStep(kind, 0))
		}
	}
	full := append(slices.Repeat([]impl.Slip{ofPart(0)}, 28), saidGot(1), ofDrop(2))
	wantCourtStep(t, withSlips(c, full[1:]...), courtStep(impl.CoTwice, 27), withSlips(c, append(full[1:30:30], saidGot(1))...))
	for k := range full {
		// There is no room.
		wantNoCourtStep(t, withSlips(c, full...), courtStep(impl.CoTwice, k))
		wantCourtStep(t, withSlips(c, full...), courtStep(impl.CoLose, k), withSlips(c, slices.Delete(slices.Clone(full), k, k+1)...))
	}
}

func TestTicksByHand(t *testing.T) {
	tick := courtStep(impl.CoTick, 0)
	for end := range lastCaseEnd + 1 {
		open := courtIn(0, "0.").Cases
		open[0].End = end
		gone := slices.Clone(open)
		gone[0].Said = impl.VdGone
		for _, line := range [][]impl.Slip{nil, {ofPart(0), ofDrop(0)}} {
			if end > 0 {
				wantCourtStep(t, impl.Court{Now: end - 1, Cases: open, Line: line}, tick, impl.Court{Now: end, Cases: open, Line: line})
			}
			wantCourtStep(t, impl.Court{Now: end, Cases: open, Line: line}, tick, impl.Court{Now: end + 1, Cases: gone, Line: line})
			wantCourtStep(t, impl.Court{Now: end + 1, Cases: gone, Line: line}, tick, impl.Court{Now: end + 2, Cases: gone, Line: line})
			wantNoCourt(t, impl.Court{Now: end + 1, Cases: open, Line: line})
		}
	}
	wantCourtStep(t, courtIn(4, "4. 4a. 5. 4+ 4++ 4a--"), tick, courtIn(5, "4- 4a- 5. 4+ 4++ 4a--"))
	wantCourtStep(t, courtIn(4, "4. 4+ 9.", saidGot(1), ofPart(0)), tick, courtIn(5, "4- 4+ 9.", saidGot(1), ofPart(0)))
	full := slices.Repeat([]impl.Slip{ofPart(0)}, impl.MaxLine)
	wantCourtStep(t, courtIn(4, "4.", full...), tick, courtIn(5, "4-", full...))
	for _, cases := range []string{"", "100+", "0- 100++ 3a--"} {
		wantCourtStep(t, courtIn(198, cases), tick, courtIn(199, cases))
		wantCourtStep(t, courtIn(199, cases), tick, courtIn(200, cases))
		wantNoCourtStep(t, courtIn(200, cases), tick)
	}
	for _, k := range append([]int{-1, 1, 2}, farInts...) {
		wantNoCourtStep(t, courtIn(4, "4. 4. 9+", saidGot(2), ofPart(0), ofPart(1)), courtStep(impl.CoTick, k))
	}
}

func TestStepsOfNoKind(t *testing.T) {
	for _, c := range []impl.Court{{}, courtIn(4, "9. 9+ 9++", ofPart(0), saidGot(1))} {
		for _, kind := range append([]int{0, -1, 7, 8}, farInts...) {
			for k := -1; k < 4; k++ {
				wantNoCourtStep(t, c, courtStep(kind, k))
			}
			wantNoCourtStep(t, c, courtStep(kind, kind))
		}
	}
}

func TestStepsOfGoodCourts(t *testing.T) {
	done := [7]int{}
	said := [3]int{}
	finals := [3]int{}
	for _, c := range courtsToTry(800) {
		if !impl.GoodCourt(c) {
			t.Errorf("GoodCourt(%v)", c)
		}
		for _, s := range courtStepsFor(c) {
			got, ok := wantCourtStepAs(t, c, s)
			if !ok {
				continue
			}
			done[s.Kind]++
			for k, x := range c.Cases {
				if x.Said == impl.VdNone {
					said[got.Cases[k].Said]++
				}
				if x.Final == impl.VdNone {
					finals[got.Cases[k].Final]++
				}
			}
		}
	}
	for kind := 1; kind <= 6; kind++ {
		if done[kind] < 300 {
			t.Error("too few steps of kind", kind, "are done:", done[kind])
		}
	}
	if slices.Min(said[:]) < 100 || slices.Min(finals[:]) < 100 {
		t.Error("too little is said, or final:", said, finals)
	}
}

// TestAllShortCourts goes through all that can be reached in few steps.
func TestAllShortCourts(t *testing.T) {
	for _, ends := range [][]int{{0}, {1}, {0, 1}} {
		steps := 12 - 3*len(ends)
		reached := []impl.Court{courtOfEnds(ends)}
		seen := map[string]bool{}
		finals := 0
		for range steps {
			var next []impl.Court
			for _, c := range reached {
				for kind := range 8 {
					for k := -1; k <= max(1, len(c.Line)); k++ {
						after, ok := wantCourtStepAs(t, c, courtStep(kind, k))
						if name := fmt.Sprint(after); ok && !seen[name] {
							seen[name] = true
							next = append(next, after)
							finals += wantSaidForGood(t, c, after, courtStep(kind, k))
						}
					}
				}
			}
			reached = next
		}
		if len(seen) < 1000 || finals < 10 {
			t.Error("too few courts:", len(seen), finals)
		}
	}
}

// wantSaidForGood looks at what a step has changed, and gives how many cases became final.
func wantSaidForGood(t *testing.T, was, is impl.Court, s impl.CourtStep) int {
	t.Helper()
	wantAgrees(t, is)
	if !impl.GoodCourt(is) {
		t.Errorf("%v after %v is not good: %v", s, was, is)
	}
	ticks := 0
	if s.Kind == impl.CoTick {
		ticks = 1
	}
	if is.Now != was.Now+ticks || len(is.Cases) != len(was.Cases) {
		t.Fatalf("%v after %v: %v", s, was, is)
	}
	finals := 0
	for k, x := range is.Cases {
		old := was.Cases[k]
		if x.End != old.End || old.Asks && !x.Asks {
			t.Errorf("%v after %v: case %d is %v", s, was, k, x)
		}
		if old.Said != impl.VdNone && x.Said != old.Said || old.Final != impl.VdNone && x.Final != old.Final {
			t.Errorf("%v after %v: case %d was told, and is told otherwise: %v", s, was, k, x)
		}
		if x.Final != impl.VdNone && x.Final != x.Said {
			t.Errorf("%v after %v: case %d is final otherwise than it is said: %v", s, was, k, x)
		}
		if x.Said == impl.VdNone && is.Now > x.End {
			t.Errorf("%v after %v: of case %d nothing is said: %v", s, was, k, is)
		}
		if x.Final != old.Final {
			finals++
		}
	}
	for _, p := range is.Line {
		if p.Kind == impl.NtSaid && p.What != is.Cases[p.Case].Said {
			t.Errorf("%v after %v: %v is on the line, and is not said", s, was, p)
		}
	}
	return finals
}

// wantVerdictsForGood plays step by step, and gives what comes of it and how many cases became final.
func wantVerdictsForGood(t *testing.T, ends []int, l []impl.CourtStep) (impl.Court, int) {
	t.Helper()
	c, ok := impl.NewCourt(ends)
	if !ok {
		t.Fatalf("NewCourt(%v)", ends)
	}
	var done []bool
	finals := 0
	for _, s := range l {
		next, ok := impl.StepCourt(c, s)
		done = append(done, ok)
		if !ok {
			wantNoCourtStep(t, c, s)
			continue
		}
		finals += wantSaidForGood(t, c, next, s)
		c = next
	}
	wantCourtPlay(t, ends, l, c, done)
	wantAgrees(t, c)
	return c, finals
}

func TestWhatIsSaidIsNeverSaidOtherwise(t *testing.T) {
	said := [3]int{}
	finals := 0
	for _, p := range courtPlaysToTry(500) {
		c, many := wantVerdictsForGood(t, p.ends, p.steps)
		want, done := courtPlayed(p.ends, p.steps)
		wantCourtPlay(t, p.ends, p.steps, want, done)
		finals += many
		for _, x := range c.Cases {
			said[x.Said]++
		}
	}
	if slices.Min(said[:]) < 300 || finals < 1000 {
		t.Error("too little is said, or final:", said, finals)
	}
}

// TestPartsAndDropsCrossEachOther has both on the line, twice each, and takes them in any order with old ones that come late, past the ends.
func TestPartsAndDropsCrossEachOther(t *testing.T) {
	next := shaker(163)
	overtaken := map[string]int{}
	for range 700 {
		ends := shakenEnds(1+next(3), 12, next)
		var l []impl.CourtStep
		for k := range ends {
			l = append(l, courtStep(impl.CoSend, k), courtStep(impl.CoDrop, k), courtStep(impl.CoSend, k))
		}
		l = append(l, courtStepsIn("w0 w1")...)
		b := benchOf(firstCourt(courtPlayed(ends, l)))
		for len(l) < impl.MaxCourtSteps {
			s := courtStep(impl.CoTake, next(max(1, len(b.line))))
			switch pick := next(20); {
			case pick < 2:
				s = courtStep(impl.CoTick, 0)
			case pick < 4:
				s = courtStep(impl.CoSend, next(len(ends)))
			case pick < 8:
				s.Kind = impl.CoTwice
			case pick < 10:
				s.Kind = impl.CoLose
			}
			if s.Kind == impl.CoTake && len(b.line) > 0 {
				p := b.line[s.K]
				overtaken[fmt.Sprint(p.kind, b.all[p.of].said(), b.all[p.of].heard)]++
			}
			l = append(l, s)
			if after, ok := b.after(s); ok {
				b = after
			}
		}
		got, _ := wantVerdictsForGood(t, ends, l)
		if !sameCourt(got, b.court()) {
			t.Errorf("PlayCourt(%v, %v): %v, not %v", ends, l, got, b.court())
		}
	}
	// A part and a drop where nothing is said, where it is got and where it is gone; what was said, for the first time and late.
	for _, name := range []string{"1 0 false", "1 1 false", "1 2 false", "2 0 false", "2 1 false", "2 2 false", "1 1 true", "1 2 true", "2 1 true", "2 2 true", "3 1 false", "3 2 false", "3 1 true", "3 2 true"} {
		if overtaken[name] < 50 {
			t.Error("too few are taken of:", name, overtaken)
		}
	}
}

func firstCourt(c impl.Court, _ []bool) impl.Court {
	return c
}

func TestTicksUpToAndPastEachEnd(t *testing.T) {
	ends := []int{0, 1, 7, 50, 99, 100}
	for _, script := range []string{"", "s0 s1 s2 s3 s4 s5", "d0 s0 s1 d2 s2 s3 t0 t1 t0", "d5 s5 s4 s3 t0 t0 t0 t0 t0"} {
		l := courtStepsIn(script)
		was, _ := courtPlayed(ends, l)
		for ticks := 1; len(l) < impl.MaxCourtSteps; ticks++ {
			l = append(l, courtStep(impl.CoTick, 0))
			c, _ := wantVerdictsForGood(t, ends, l)
			want := courtIn(ticks, "", was.Line...)
			for _, x := range was.Cases {
				if x.Said == impl.VdNone && x.End < ticks {
					x.Said = impl.VdGone
				}
				want.Cases = append(want.Cases, x)
			}
			if !sameCourt(c, want) {
				t.Errorf("after %d ticks: %v, not %v", ticks, c, want)
			}
		}
	}
}

func TestAsManyStepsInACourtAsCanBe(t *testing.T) {
	all := slices.Repeat([]bool{true}, impl.MaxCourtSteps)
	ticks := slices.Repeat(courtStepsIn("k"), impl.MaxCourtSteps)
	wantCourtPlay(t, []int{100, 0}, ticks, courtIn(120, "100- 0-"), all)
	wantCourtPlay(t, nil, ticks, impl.Court{Now: 120}, all)
	wantCourtPlay(t, []int{100, 0}, ticks[:119], courtIn(119, "100- 0-"), all[:119])
	wantCourtPlay(t, []int{100, 0}, ticks[:100], courtIn(100, "100. 0-"), all[:100])
	sends := slices.Repeat(courtStepsIn("s0"), impl.MaxCourtSteps)
	full := slices.Repeat([]impl.Slip{ofPart(0)}, impl.MaxLine)
	wantCourtPlay(t, []int{9}, sends, courtIn(0, "9.", full...), all)
	twice := append(courtStepsIn("s0"), slices.Repeat(courtStepsIn("w0"), 119)...)
	wantCourtPlay(t, []int{9}, twice, courtIn(0, "9.", full...), append(slices.Repeat([]bool{true}, 30), make([]bool, 90)...))
	rounds := slices.Repeat(courtStepsIn("s0 w0 l0 l0 k"), 24)
	wantCourtPlay(t, []int{0, 100}, rounds, courtIn(24, "0- 100."), all)
	wrong := slices.Repeat([]impl.CourtStep{courtStep(0, 0), courtStep(7, 0), courtStep(math.MinInt, 1), courtStep(impl.CoTake, math.MaxInt), {}, courtStep(impl.CoTick, 2)}, 20)
	wantCourtPlay(t, []int{1, 2}, wrong, courtIn(0, "1. 2."), make([]bool, 120))
	for _, many := range []int{impl.MaxCourtSteps + 1, impl.MaxCourtSteps + 2, 1000, 100000} {
		for _, ends := range [][]int{nil, {5}, {0, 1, 2, 3, 4, 5}, {-1}, make([]int, 7)} {
			wantNoCourtPlay(t, ends, slices.Repeat(courtStepsIn("k"), many))
			wantNoCourtPlay(t, ends, make([]impl.CourtStep, many))
		}
	}
	for _, far := range farInts {
		for kind := range 8 {
			wantCourtPlay(t, []int{4}, []impl.CourtStep{courtStep(kind, far), courtStep(far, kind), courtStep(far, far)}, courtIn(0, "4."), make([]bool, 3))
		}
	}
}

func TestSettledOnesByHand(t *testing.T) {
	wantIsSettled(t, impl.Court{}, true)
	wantIsSettled(t, courtIn(200, ""), true)
	for text, want := range map[string]bool{"5.": false, "5+": false, "5-": false, "5++": true, "5--": true, "5a.": false, "5a-": false, "5a--": true} {
		wantIsSettled(t, courtIn(3, text), want)
		wantIsSettled(t, courtIn(3, text, ofPart(0), ofDrop(0)), want)
	}
	six := strings.Fields("5++ 5-- 5a++ 9a-- 0-- 0++")
	wantIsSettled(t, courtIn(3, strings.Join(six, " ")), true)
	for k := range six {
		for _, open := range []string{"5.", "5a.", "5+", "5a-", "0-"} {
			with := slices.Clone(six)
			with[k] = open
			wantIsSettled(t, courtIn(3, strings.Join(with, " ")), false)
		}
	}
	for _, c := range courtsToTry(600) {
		want := !slices.ContainsFunc(benchOf(c).all, func(d docket) bool { return !d.heard })
		wantIsSettled(t, c, want)
	}
}

func TestCourtsSettledByHand(t *testing.T) {
	for _, x := range []struct {
		was, is string
		many    int
	}{
		{"", "", 0}, {"5.", "5++", 1}, {"5a.", "5a--", 1}, {"5+", "5++", 1}, {"5a+", "5a++", 1}, {"5-", "5--", 1}, {"0-", "0--", 1}, {"5a-", "5a--", 1},
		{"5. 5a. 9.", "5++ 5a-- 9++", 3}, {"5++ 5. 5--", "5++ 5++ 5--", 1},
		{"3. 4a. 5. 6a. 7. 8a.", "3++ 4a-- 5++ 6a-- 7++ 8a--", 6}, {"0- 0+ 5. 5a. 1++ 1--", "0-- 0++ 5++ 5a-- 1++ 1--", 4},
	} {
		wantCourtSettled(t, courtIn(3, x.was), courtIn(3, x.is), x.many)
		if x.many > 0 {
			// The Line is emptied, whatever it had.
			for _, line := range [][]impl.Slip{{ofPart(0)}, {ofDrop(0), ofPart(0)}, slices.Repeat([]impl.Slip{ofDrop(0)}, impl.MaxLine)} {
				wantCourtSettled(t, courtIn(3, x.was, line...), courtIn(3, x.is), x.many)
			}
		}
	}
	// Nothing is left to be done where it is settled already: the Line stays.
	for _, line := range [][]impl.Slip{nil, {ofPart(0)}, {saidGot(0), ofDrop(1), saidGone(1)}, slices.Repeat([]impl.Slip{ofPart(0)}, impl.MaxLine)} {
		c := courtIn(200, "5++ 5a--", line...)
		wantCourtSettled(t, c, c, 0)
	}
	wantCourtSettled(t, courtIn(200, ""), courtIn(200, ""), 0)
}

func TestGoodCourtsAreSettled(t *testing.T) {
	counts := map[int]int{}
	all := courtsToTry(900)
	for _, p := range courtPlaysToTry(60) {
		c, _ := courtPlayed(p.ends, p.steps)
		all = append(all, c)
	}
	for _, c := range all {
		want, many := settledByBench(c)
		wantCourtSettled(t, c, want, many)
		wantIsSettled(t, want, true)
		wantAgrees(t, want)
		wantCourtSettled(t, want, want, 0)
		counts[many]++
		if !impl.GoodCourt(want) || len(want.Line) > 0 && many > 0 {
			t.Errorf("settled %v: %v", c, want)
		}
	}
	for many := range impl.MaxCases + 1 {
		if counts[many] < 20 {
			t.Error("too few are settled so often:", many, counts)
		}
	}
}

func TestBothAgree(t *testing.T) {
	for _, c := range courtsToTry(600) {
		wantAgrees(t, c)
	}
	for _, text := range []string{"", "5.", "5+", "5-", "5++", "5--", "5. 5+ 5- 5++ 5-- 5a."} {
		wantAgrees(t, courtIn(5, text))
	}
	// Where they do not agree the court is not good.
	for final := range 3 {
		for said := range 3 {
			c := impl.Court{Now: 5, Cases: []impl.Case{{End: 5, Final: final, Said: said}}}
			if final == impl.VdNone || final == said {
				wantAgrees(t, c)
			} else {
				wantNoCourt(t, c)
			}
		}
	}
}

func wrongCases() []impl.Case {
	var l []impl.Case
	for _, end := range append([]int{-1, -2, 101, 102, 200}, farInts...) {
		l = append(l, impl.Case{End: end}, impl.Case{End: end, Said: impl.VdGone, Final: impl.VdGone}, impl.Case{End: end, Asks: true, Said: impl.VdGot})
	}
	for _, verdict := range append([]int{-1, 3, 4}, farInts...) {
		l = append(l, impl.Case{End: 9, Said: verdict}, impl.Case{End: 9, Said: verdict, Final: verdict}, impl.Case{End: 9, Final: verdict})
		l = append(l, impl.Case{End: 9, Final: verdict, Said: impl.VdGot}, impl.Case{End: 9, Final: impl.VdGot, Said: verdict}, impl.Case{End: 9, Asks: true, Final: verdict, Said: impl.VdGone})
	}
	for _, x := range []impl.Case{{Final: impl.VdGot}, {Final: impl.VdGone}, {Final: impl.VdGot, Said: impl.VdGone}, {Final: impl.VdGone, Said: impl.VdGot}} {
		x.End = 9
		l = append(l, x)
		x.Asks = true
		l = append(l, x)
	}
	return l
}

// courtsWithWrongCases have a Now of 5, for which nothing need be Said where the End is 5.
func courtsWithWrongCases() []impl.Court {
	good := courtIn(5, "5. 0+ 9-- 100a++ 7a.").Cases
	var all []impl.Court
	for _, x := range append(wrongCases(), impl.Case{End: 4}, impl.Case{End: 0}, impl.Case{End: 4, Asks: true}) {
		all = append(all, impl.Court{Now: 5, Cases: []impl.Case{x}})
		for k := 0; k <= len(good); k += 2 {
			all = append(all, impl.Court{Now: 5, Cases: slices.Insert(slices.Clone(good), k, x), Line: []impl.Slip{ofPart(0)}})
		}
	}
	for end := range 8 {
		all = append(all, impl.Court{Now: end + 1, Cases: []impl.Case{{End: end}}}, impl.Court{Now: 200, Cases: []impl.Case{{End: 100 - end, Asks: true}}})
	}
	for _, many := range []int{7, 8, 1000} {
		all = append(all, impl.Court{Cases: make([]impl.Case, many)}, impl.Court{Now: 9, Cases: slices.Repeat([]impl.Case{{End: 9, Said: 1, Final: 1}}, many)})
	}
	return all
}

func courtsWithWrongClocks() []impl.Court {
	var all []impl.Court
	for _, now := range append([]int{-1, -2, 201, 202}, farInts...) {
		all = append(all, impl.Court{Now: now}, courtIn(now, "100+ 5--"), courtIn(now, "5++", saidGot(0)), courtIn(now, "100."))
	}
	return all
}

// wrongSlips are wrong in a court of which nothing is Said of case 0, case 1 is got, and case 2 is gone.
func wrongSlips() []impl.Slip {
	var l []impl.Slip
	for _, kind := range append([]int{-1, 0, 4, 5}, farInts...) {
		for k := range 3 {
			l = append(l, impl.Slip{Kind: kind, Case: k}, impl.Slip{Kind: kind, Case: k, What: k})
		}
	}
	for _, k := range append([]int{-1, -2, 3, 4, 6}, farInts...) {
		l = append(l, ofPart(k), ofDrop(k), saidGot(k), saidGone(k), impl.Slip{Kind: impl.NtSaid, Case: k})
	}
	for _, what := range append([]int{-1, 1, 2, 3}, farInts...) {
		for k := range 3 {
			l = append(l, impl.Slip{Kind: impl.NtPart, Case: k, What: what}, impl.Slip{Kind: impl.NtDrop, Case: k, What: what})
			if what != k || k == 0 {
				l = append(l, impl.Slip{Kind: impl.NtSaid, Case: k, What: what})
			}
		}
	}
	return append(l, impl.Slip{Kind: impl.NtSaid}, impl.Slip{Kind: impl.NtSaid, Case: 1}, impl.Slip{Kind: impl.NtSaid, Case: 2}, impl.Slip{})
}

func courtsWithWrongLines() []impl.Court {
	var all []impl.Court
	c := courtIn(5, "9. 9+ 0-")
	for _, s := range wrongSlips() {
		all = append(all, withSlips(c, s), withSlips(c, s, ofPart(0)), withSlips(c, saidGot(1), s), withSlips(c, saidGone(2), s, ofDrop(0)))
		all = append(all, withSlips(c, append(slices.Repeat([]impl.Slip{ofPart(1)}, 29), s)...))
	}
	for _, many := range []int{31, 32, 60, 1000} {
		all = append(all, withSlips(c, slices.Repeat([]impl.Slip{ofPart(0)}, many)...), withSlips(c, make([]impl.Slip, many)...), withSlips(c, slices.Repeat([]impl.Slip{saidGot(1)}, many)...))
	}
	// There are no cases, so there are no slips of any.
	for _, s := range []impl.Slip{ofPart(0), ofDrop(0), saidGot(0), {Kind: impl.NtSaid}, ofPart(-1), {}} {
		all = append(all, impl.Court{Line: []impl.Slip{s}})
	}
	return all
}

func wrongCourts() []impl.Court {
	return slices.Concat(courtsWithWrongCases(), courtsWithWrongClocks(), courtsWithWrongLines())
}

func TestWrongCourtsAreRefused(t *testing.T) {
	for _, c := range wrongCourts() {
		if isGoodBench(c) {
			t.Errorf("%v is good", c)
		}
		wantNoCourt(t, c)
	}
}

func TestCourtsWithinTheirLimitsAreGood(t *testing.T) {
	full := slices.Repeat([]impl.Slip{ofPart(0)}, impl.MaxLine)
	for _, c := range []impl.Court{
		{}, {Now: 200}, courtIn(0, "0."), courtIn(100, "100."), courtIn(101, "100-"), courtIn(200, "0+ 0- 0++ 0-- 100a+ 100a--"), courtIn(5, "5. 6a. 5+"),
		courtIn(0, "0. 0. 0. 0. 0. 100."), courtIn(0, "9.", full...), courtIn(9, "9. 9+ 9--", ofPart(0), ofDrop(0), ofPart(1), ofDrop(1), saidGot(1), ofPart(2), ofDrop(2), saidGone(2), saidGone(2)),
		withSlips(courtIn(9, "9++"), slices.Repeat([]impl.Slip{saidGot(0)}, impl.MaxLine)...), courtIn(0, "9. 9. 9. 9. 9. 9-", ofPart(5), saidGone(5)),
	} {
		if !impl.GoodCourt(c) {
			t.Errorf("GoodCourt(%v)", c)
		}
	}
	next := shaker(164)
	counts := map[bool]int{}
	for range 8000 {
		c := courtChanged(shakenCourt(next), next)
		want := isGoodBench(c)
		counts[want]++
		if impl.GoodCourt(c) != want {
			t.Errorf("GoodCourt(%v): %t", c, !want)
		}
	}
	if counts[true] < 1000 || counts[false] < 1000 {
		t.Error("too few are good, or wrong:", counts)
	}
}

// courtChanged changes one number by a little: what comes of it may be good or not.
func courtChanged(c impl.Court, next func(upto int) int) impl.Court {
	numbers := []*int{&c.Now}
	if len(c.Cases) > 0 {
		x := &c.Cases[next(len(c.Cases))]
		numbers = append(numbers, &x.End, &x.Final, &x.Said)
	}
	if len(c.Line) > 0 {
		s := &c.Line[next(len(c.Line))]
		numbers = append(numbers, &s.Kind, &s.Case, &s.What)
	}
	n := numbers[next(len(numbers))]
	*n = []int{*n - 1, *n + 1, *n + 2, 0}[next(4)]
	return c
}

// hiddenInCourts stand behind the lists' lengths: wrong ones, and good ones.
var hiddenInCourts = []struct {
	c impl.Case
	s impl.Slip
}{{impl.Case{End: -7, Final: -7}, impl.Slip{Kind: -7, Case: -7}}, {impl.Case{End: 77, Asks: true}, impl.Slip{Kind: impl.NtPart}}}

func withHiddenCourt(c impl.Court, k int) impl.Court {
	return withSlips(withCases(c, withHidden(c.Cases, hiddenInCourts[k].c)...), withHidden(c.Line, hiddenInCourts[k].s)...)
}

func wantCourtUnchanged(t *testing.T, what string, given, were impl.Court, k int) {
	t.Helper()
	if given.Now != were.Now {
		t.Errorf("%s: %v has become %v", what, were, given)
	}
	wantUnchanged(t, what, given.Cases, were.Cases, hiddenInCourts[k].c)
	wantUnchanged(t, what, given.Line, were.Line, hiddenInCourts[k].s)
}

// wreckedCourt writes all over an answer; a good one that is hidden may stand in it as well.
func wreckedCourt(t *testing.T, what string, c impl.Court) {
	t.Helper()
	wrecked(t, what, c.Cases, hiddenInCourts[0].c)
	wrecked(t, what, c.Line, hiddenInCourts[0].s)
}

func TestCourtsAreNotWrittenInto(t *testing.T) {
	wrong := wrongCourts()
	all := courtsToTry(90)
	for k := 0; k < len(wrong); k += 7 {
		all = append(all, wrong[k])
	}
	for _, were := range all {
		for k := range hiddenInCourts {
			given := withHiddenCourt(were, k)
			wantLooksUntouched(t, given, were, k)
			wantCourtSettlingUntouched(t, given, were, k)
			for _, s := range courtStepsFor(were) {
				if s.K >= -1 && s.K <= max(len(were.Line), len(were.Cases)) {
					wantCourtSteppingUntouched(t, given, were, s, k)
				}
			}
		}
	}
}

func wantLooksUntouched(t *testing.T, given, were impl.Court, k int) {
	t.Helper()
	settled, ok := impl.IsSettled(given)
	plainSettled, same := impl.IsSettled(were)
	agrees, fine := impl.AgreesIn(given)
	plainAgrees, alike := impl.AgreesIn(were)
	if impl.GoodCourt(given) != impl.GoodCourt(were) || settled != plainSettled || ok != same || agrees != plainAgrees || fine != alike {
		t.Errorf("%v hangs on what lies behind its lists", were)
	}
	wantCourtUnchanged(t, "GoodCourt, IsSettled, AgreesIn", given, were, k)
}

func wantCourtSettlingUntouched(t *testing.T, given, were impl.Court, k int) {
	t.Helper()
	got, n, ok := impl.SettleCourt(given)
	plain, many, same := impl.SettleCourt(were)
	if !sameCourt(got, plain) || n != many || ok != same {
		t.Errorf("SettleCourt(%v): %v, %d, %t, and %v, %d, %t", were, got, n, ok, plain, many, same)
	}
	wreckedCourt(t, "SettleCourt", got)
	wantCourtUnchanged(t, "SettleCourt", given, were, k)
	if again, _, _ := impl.SettleCourt(given); !sameCourt(again, plain) {
		t.Errorf("SettleCourt(%v): two answers share memory", were)
	}
}

func wantCourtSteppingUntouched(t *testing.T, given, were impl.Court, s impl.CourtStep, k int) {
	t.Helper()
	got, ok := impl.StepCourt(given, s)
	plain, same := impl.StepCourt(withSlips(withCases(were, slices.Clone(were.Cases)...), slices.Clone(were.Line)...), s)
	if !sameCourt(got, plain) || ok != same {
		t.Errorf("StepCourt(%v, %v): %v, %t, and %v, %t", were, s, got, ok, plain, same)
	}
	again, _ := impl.StepCourt(given, s)
	wreckedCourt(t, "StepCourt", got)
	wantCourtUnchanged(t, fmt.Sprint("StepCourt ", s), given, were, k)
	if !sameCourt(again, plain) {
		t.Errorf("StepCourt(%v, %v): two answers share memory", were, s)
	}
}

func TestPlaysOfCourtsAreNotWrittenInto(t *testing.T) {
	hidden := courtStep(impl.CoTick, 0)
	plays := append(courtPlaysToTry(20), courtPlay{nil, nil}, courtPlay{[]int{4}, courtStepsIn("s0 t0 t0")}, courtPlay{[]int{4, -1}, courtStepsIn("s0")}, courtPlay{make([]int, 7), nil}, courtPlay{[]int{4}, make([]impl.CourtStep, impl.MaxCourtSteps+1)})
	for _, p := range plays {
		ends, l := withHidden(p.ends, hiddenNumber), withHidden(p.steps, hidden)
		made, ok := impl.NewCourt(ends)
		twin, _ := impl.NewCourt(ends)
		plain, same := impl.NewCourt(p.ends)
		wreckedCourt(t, "NewCourt", made)
		if !sameCourt(twin, plain) || ok != same {
			t.Errorf("NewCourt(%v): %v, %t, and %v, %t", p.ends, twin, ok, plain, same)
		}
		got, did, ok := impl.PlayCourt(ends, l)
		again, didAgain, _ := impl.PlayCourt(ends, l)
		plain, plainDid, same := impl.PlayCourt(slices.Clone(p.ends), slices.Clone(p.steps))
		if !sameCourt(got, plain) || !slices.Equal(did, plainDid) || ok != same {
			t.Errorf("PlayCourt(%v): %v, %v, %t, and %v, %v, %t", p, got, did, ok, plain, plainDid, same)
		}
		wreckedCourt(t, "PlayCourt", got)
		clear(did[:cap(did)])
		wantUnchanged(t, "NewCourt, PlayCourt", ends, p.ends, hiddenNumber)
		wantUnchanged(t, "PlayCourt", l, p.steps, hidden)
		if !sameCourt(again, plain) || !slices.Equal(didAgain, plainDid) {
			t.Errorf("PlayCourt(%v): two answers share memory", p)
		}
	}
}

// wantCourtsApart writes into each list in turn, and looks whether another one has it too.
func wantCourtsApart(t *testing.T, what string, answers ...impl.Court) {
	t.Helper()
	for k, c := range answers {
		cases, line := c.Cases[:cap(c.Cases)], c.Line[:cap(c.Line)]
		for at := range cases {
			cases[at].End = -1000 - k
		}
		for at := range line {
			line[at].Kind = -1000 - k
		}
		for other, d := range answers {
			isMarked := func(x impl.Case) bool { return x.End == -1000-k }
			isMarkedToo := func(s impl.Slip) bool { return s.Kind == -1000-k }
			if other != k && (slices.ContainsFunc(d.Cases[:cap(d.Cases)], isMarked) || slices.ContainsFunc(d.Line[:cap(d.Line)], isMarkedToo)) {
				t.Errorf("%s: two lists share memory", what)
			}
		}
	}
}

func TestListsOfCourtsAreApart(t *testing.T) {
	next := shaker(165)
	for range 300 {
		c := shakenCourt(next)
		for _, s := range courtStepsFor(c) {
			got, _ := impl.StepCourt(c, s)
			again, _ := impl.StepCourt(c, s)
			wantCourtsApart(t, fmt.Sprint("StepCourt ", s), got, again)
		}
		got, _, _ := impl.SettleCourt(c)
		again, _, _ := impl.SettleCourt(c)
		settled, _ := settledByBench(c)
		twin, _, _ := impl.SettleCourt(settled)
		wantCourtsApart(t, "SettleCourt", got, again, twin)
		if !impl.GoodCourt(c) || !impl.GoodCourt(settled) {
			t.Errorf("written into what was given: %v", c)
		}
		ends := shakenEnds(1+next(6), 9, next)
		l := shakenCourtSteps(40, next(9), ends, next)
		got, _, _ = impl.PlayCourt(ends, l)
		again, _, _ = impl.PlayCourt(ends, l)
		made, _ := impl.NewCourt(ends)
		twin, _ = impl.NewCourt(ends)
		wantCourtsApart(t, fmt.Sprint("PlayCourt ", l), got, again, made, twin)
	}
}

func TestNilAndEmptyListsOfCourtsAreAlike(t *testing.T) {
	for _, c := range []impl.Court{{}, {Now: 7}, courtIn(4, "4. 4+ 9a--")} {
		empty := withSlips(c, []impl.Slip{}...)
		if len(c.Cases) == 0 {
			empty.Cases = []impl.Case{}
		}
		for _, s := range courtStepsFor(c) {
			got, ok := impl.StepCourt(empty, s)
			plain, same := impl.StepCourt(c, s)
			if !sameCourt(got, plain) || ok != same {
				t.Errorf("StepCourt(%v, %v): %v, %t, and %v, %t", c, s, got, ok, plain, same)
			}
		}
		want, many := settledByBench(c)
		wantCourtSettled(t, empty, want, many)
		wantCourtSettled(t, c, want, many)
		wantAgrees(t, empty)
		if !impl.GoodCourt(empty) {
			t.Errorf("GoodCourt(%v)", empty)
		}
	}
	wantNewCourt(t, []int{}, impl.Court{})
	wantNewCourt(t, nil, impl.Court{})
	wantCourtPlay(t, []int{}, courtStepsIn("k s0"), impl.Court{Now: 1}, []bool{true, false})
	wantCourtPlay(t, nil, courtStepsIn("k s0"), impl.Court{Now: 1}, []bool{true, false})
}

func TestVerdictsHangOnWhatIsGivenAlone(t *testing.T) {
	c := courtIn(4, "4. 9+ 9a--", ofPart(0), saidGot(1))
	for range 3 {
		wantCourtStep(t, c, courtStep(impl.CoTake, 0), courtIn(4, "4+ 9+ 9a--", saidGot(1), saidGot(0)))
		wantNoCourtStep(t, c, courtStep(impl.CoSend, 2))
		wantCourtPlay(t, []int{4}, courtStepsIn("s0 t0 t0 t0"), courtIn(0, "4++"), []bool{true, true, true, false})
		wantNoCourtPlay(t, []int{4}, slices.Repeat(courtStepsIn("k"), 121))
		wantCourtStep(t, c, courtStep(impl.CoTick, 0), courtIn(5, "4- 9+ 9a--", ofPart(0), saidGot(1)))
		wantNoCourt(t, courtIn(5, "4."))
		wantCourtSettled(t, c, courtIn(4, "4++ 9++ 9a--"), 2)
		wantIsSettled(t, c, false)
		wantAgrees(t, c)
		wantNoNewCourt(t, []int{101})
		wantNewCourt(t, []int{100}, courtIn(0, "100."))
	}
}
