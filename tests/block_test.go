package tests

import (
	"bytes"
	"math"
	"slices"
	"strings"
	"testing"

	"loop.example/g00527/impl"
)

const (
	mostBlocks = 10
	mostTold   = 100
	mostFed    = 60
	lastId     = 1000
)

func part(id, at, long int, text string) impl.Part {
	return impl.Part{Id: id, At: at, Long: long, Text: text}
}

// wholeIn is a part that is a whole text by itself.
func wholeIn(id int, text string) impl.Part {
	return part(id, 0, len(text), text)
}

func blockOf(id int, text string, has ...impl.Span) impl.Block {
	return impl.Block{Id: id, Long: len(text), Text: text, Has: has}
}

func sameBlock(a, b impl.Block) bool {
	return a.Id == b.Id && a.Long == b.Long && a.Text == b.Text && slices.Equal(a.Has, b.Has)
}

func sameStore(a, b impl.Store) bool {
	return slices.EqualFunc(a.Blocks, b.Blocks, sameBlock) && slices.Equal(a.Told, b.Told)
}

func isNoBlock(b impl.Block) bool {
	return sameBlock(b, impl.Block{})
}

func isNoStore(s impl.Store) bool {
	return sameStore(s, impl.Store{})
}

// beginnings are so many blocks of two bytes each, that have their first one.
func beginnings(many, from int) []impl.Block {
	var l []impl.Block
	for k := range many {
		l = append(l, blockOf(from+k, "b\x00", span(0, 1)))
	}
	return l
}

// The ones from here on are written apart from the program, to be held against it.

// places is a block: for each of its places the byte that came there first, or -1.
type places []int

func noneOf(long int) places {
	return slices.Repeat(places{-1}, long)
}

func placesOf(b impl.Block) places {
	x := noneOf(b.Long)
	for _, y := range b.Has {
		for n := y.From; n < y.To; n++ {
			x[n] = int(b.Text[n])
		}
	}
	return x
}

// after has the part's bytes where it had none, and tells how many these were.
func (x places) after(p impl.Part) (places, int) {
	next, fresh := slices.Clone(x), 0
	for k := range len(p.Text) {
		if next[p.At+k] < 0 {
			next[p.At+k] = int(p.Text[k])
			fresh++
		}
	}
	return next, fresh
}

func (x places) isFull() bool {
	return !slices.Contains(x, -1)
}

func (x places) text() string {
	var b []byte
	for _, n := range x {
		b = append(b, byte(max(n, 0)))
	}
	return string(b)
}

func (x places) block(id int) impl.Block {
	var marks []byte
	for _, n := range x {
		if n < 0 {
			marks = append(marks, isOpen)
		} else {
			marks = append(marks, isHeard)
		}
	}
	return blockOf(id, x.text(), runsIn(string(marks), isHeard)...)
}

// shelf is a store: what stands in it by Id, nil where a text was told.
type shelf map[int]places

func (s shelf) ids(told bool) []int {
	var l []int
	for id, x := range s {
		if (x == nil) == told {
			l = append(l, id)
		}
	}
	slices.Sort(l)
	return l
}

func (s shelf) store() impl.Store {
	var store impl.Store
	for _, id := range s.ids(false) {
		store.Blocks = append(store.Blocks, s[id].block(id))
	}
	store.Told = s.ids(true)
	return store
}

func shelfOf(s impl.Store) shelf {
	x := shelf{}
	for _, b := range s.Blocks {
		x[b.Id] = placesOf(b)
	}
	for _, id := range s.Told {
		x[id] = nil
	}
	return x
}

// put puts a good part in, and tells the text that was told, whether it was, and whether there was room.
func (s shelf) put(p impl.Part) (string, bool, bool) {
	had, is := s[p.Id]
	if is && len(had) != p.Long {
		return "", false, true
	}
	if !is {
		had = noneOf(p.Long)
	}
	now, _ := had.after(p)
	if now.isFull() {
		s[p.Id] = nil
		return now.text(), true, len(s.ids(true)) <= mostTold
	}
	s[p.Id] = now
	return "", false, len(s.ids(false)) <= mostBlocks
}

// fed puts all parts in, one by one.
func fed(l []impl.Part) (impl.Store, []string, bool) {
	s := shelf{}
	var told []string
	for _, p := range l {
		text, is, ok := s.put(p)
		if !ok {
			return impl.Store{}, nil, false
		}
		if is {
			told = append(told, text)
		}
	}
	return s.store(), told, true
}

// cutOf cuts a text, from the front on.
func cutOf(id int, text string) []impl.Part {
	var l []impl.Part
	for left := text; left != ""; {
		many := min(4, len(left))
		l = append(l, part(id, len(text)-len(left), len(text), left[:many]))
		left = left[many:]
	}
	return l
}

// textsToTry are of all lengths and of each kind: bytes 0 and bytes that are no plain text among them.
func textsToTry() []string {
	next := shaker(131)
	var all []string
	for long := 1; long <= impl.MaxBlock; long++ {
		for kind := range 6 {
			all = append(all, shakenText(long, kind, next))
		}
		all = append(all, counted(long, 1))
	}
	return all
}

// shakenPart is any good part of a block as long, of its text where one is given, otherwise of any bytes.
func shakenPart(id, long int, text string, next func(upto int) int) impl.Part {
	many := 1 + next(min(impl.PartSize, long))
	at := next(long - many + 1)
	if text != "" {
		return part(id, at, long, text[at:at+many])
	}
	return part(id, at, long, shakenText(many, next(6), next))
}

// shakenPlaces have some of their bytes, and are not full where it is asked for.
func shakenPlaces(long int, open bool, next func(upto int) int) places {
	x := noneOf(long)
	kind := next(4)
	for k := range x {
		if kind == 0 && next(2) == 0 || kind == 1 && next(8) > 0 || kind == 2 && next(8) == 0 || kind == 3 && k%2 == 0 {
			x[k] = next(4) * next(86)
		}
	}
	if open {
		x[next(long)] = -1
	}
	return x
}

func shakenShelf(blocks, told int, next func(upto int) int) shelf {
	s := shelf{}
	for len(s) < blocks {
		s[next(14)*76] = shakenPlaces(1+next(impl.MaxBlock), true, next)
	}
	for len(s) < blocks+told {
		id := next(lastId + 1)
		if _, is := s[id]; !is {
			s[id] = nil
		}
	}
	return s
}

func storesToTry(each int) []impl.Store {
	next := shaker(132)
	all := []impl.Store{{}, {Blocks: []impl.Block{}, Told: []int{}}}
	for k := range each {
		all = append(all, shakenShelf(next(mostBlocks+1), next(12), next).store())
		all = append(all, shakenShelf(mostBlocks*(k%2), mostTold*(k%3/2), next).store())
	}
	return all
}

// partsFor are some for each block of a store, as long as it and not, some of Told Ids and some of new ones.
func partsFor(s impl.Store, next func(upto int) int) []impl.Part {
	l := []impl.Part{shakenPart(998, 40, "", next), wholeIn(999, "new"), wholeIn(lastId, "n"), wholeIn(0, "zero")}
	for _, b := range s.Blocks {
		l = append(l, shakenPart(b.Id, b.Long, "", next), shakenPart(b.Id, b.Long, "", next))
		l = append(l, shakenPart(b.Id, b.Long%impl.MaxBlock+1, "", next), wholeIn(b.Id, "abc"))
		if gap := strings.IndexByte(b.Text, 0); gap >= 0 {
			l = append(l, part(b.Id, gap, b.Long, "!"))
		}
	}
	for k, id := range s.Told {
		if k%9 == 0 {
			l = append(l, wholeIn(id, "old"), shakenPart(id, 17, "", next))
		}
	}
	return l
}

func wantBlock(t *testing.T, what string, got impl.Block, ok bool, want impl.Block) {
	t.Helper()
	if !ok || !sameBlock(got, want) || !impl.GoodBlock(got) {
		t.Errorf("%s: %#v, %t, not %#v", what, got, ok, want)
	}
}

func wantNoNewBlock(t *testing.T, id, long int) {
	t.Helper()
	if b, ok := impl.NewBlock(id, long); ok || !isNoBlock(b) {
		t.Errorf("NewBlock(%d, %d): %#v, %t", id, long, b, ok)
	}
}

func wantParts(t *testing.T, id int, text string, want []impl.Part) {
	t.Helper()
	if l, ok := impl.PartsOf(id, text); !ok || !slices.Equal(l, want) {
		t.Errorf("PartsOf(%d, %#v): %#v, %t, not %#v", id, text, l, ok, want)
	}
}

func wantNoParts(t *testing.T, id int, text string) {
	t.Helper()
	if l, ok := impl.PartsOf(id, text); ok || len(l) != 0 {
		t.Errorf("PartsOf(%d, %#v): %#v, %t", id, text, l, ok)
	}
}

func wantTaken(t *testing.T, b impl.Block, p impl.Part, want impl.Block, fresh int) {
	t.Helper()
	got, n, ok := impl.TakePart(b, p)
	if !ok || n != fresh || !sameBlock(got, want) || !impl.GoodBlock(got) {
		t.Errorf("TakePart(%#v, %#v): %#v, %d, %t, not %#v, %d", b, p, got, n, ok, want, fresh)
	}
}

func wantNotTaken(t *testing.T, b impl.Block, p impl.Part) {
	t.Helper()
	if got, n, ok := impl.TakePart(b, p); ok || n != 0 || !isNoBlock(got) {
		t.Errorf("TakePart(%#v, %#v): %#v, %d, %t", b, p, got, n, ok)
	}
}

func wantDone(t *testing.T, b impl.Block, want bool) {
	t.Helper()
	if is, ok := impl.IsDone(b); is != want || !ok {
		t.Errorf("IsDone(%#v): %t, %t", b, is, ok)
	}
}

func wantStored(t *testing.T, s impl.Store, p impl.Part, want impl.Store, told string, tells bool) {
	t.Helper()
	got, text, is, ok := impl.StorePart(s, p)
	if !ok || is != tells || text != told || !sameStore(got, want) || !impl.GoodStore(got) {
		t.Errorf("StorePart(%#v, %#v): %#v, %#v, %t, %t, not %#v, %#v, %t", s, p, got, text, is, ok, want, told, tells)
	}
}

func wantNotStored(t *testing.T, s impl.Store, p impl.Part) {
	t.Helper()
	if got, text, is, ok := impl.StorePart(s, p); ok || is || text != "" || !isNoStore(got) {
		t.Errorf("StorePart(%#v, %#v): %#v, %#v, %t, %t", s, p, got, text, is, ok)
	}
}

func wantFed(t *testing.T, l []impl.Part, want impl.Store, told []string) {
	t.Helper()
	got, texts, ok := impl.FeedStore(l)
	if !ok || !slices.Equal(texts, told) || !sameStore(got, want) || !impl.GoodStore(got) {
		t.Errorf("FeedStore(%#v): %#v, %#v, %t, not %#v, %#v", l, got, texts, ok, want, told)
	}
}

func wantNotFed(t *testing.T, l []impl.Part) {
	t.Helper()
	if got, texts, ok := impl.FeedStore(l); ok || len(texts) != 0 || !isNoStore(got) {
		t.Errorf("FeedStore(%#v): %#v, %#v, %t", l, got, texts, ok)
	}
}

func TestLimitsOfBlocks(t *testing.T) {
	if impl.PartSize != 4 || impl.MaxBlock != 40 {
		t.Error(impl.PartSize, impl.MaxBlock)
	}
}

func TestPartsByHand(t *testing.T) {
	wantParts(t, 7, "a", []impl.Part{part(7, 0, 1, "a")})
	wantParts(t, 0, "abcd", []impl.Part{part(0, 0, 4, "abcd")})
	wantParts(t, 1000, "abcde", []impl.Part{part(1000, 0, 5, "abcd"), part(1000, 4, 5, "e")})
	wantParts(t, 1, "abcdefgh", []impl.Part{part(1, 0, 8, "abcd"), part(1, 4, 8, "efgh")})
	wantParts(t, 1, "\x00", []impl.Part{part(1, 0, 1, "\x00")})
	wantParts(t, 1, "abc\xe2\x82\xac", []impl.Part{part(1, 0, 6, "abc\xe2"), part(1, 4, 6, "\x82\xac")})
	wantParts(t, 1, "\x00\xff\x00\x80\x00", []impl.Part{part(1, 0, 5, "\x00\xff\x00\x80"), part(1, 4, 5, "\x00")})
	long := strings.Repeat("wxyz", 10)
	if l, ok := impl.PartsOf(3, long); !ok || len(l) != 10 || l[9] != part(3, 36, 40, "wxyz") {
		t.Errorf("PartsOf(3, %#v): %#v, %t", long, l, ok)
	}
}

func TestPartsOfAnyText(t *testing.T) {
	for k, text := range textsToTry() {
		for _, id := range []int{0, k, lastId} {
			wantParts(t, id, text, cutOf(id, text))
		}
	}
}

func TestNewBlocks(t *testing.T) {
	for long := 1; long <= impl.MaxBlock; long++ {
		for _, id := range []int{0, 1, long, 999, lastId} {
			b, ok := impl.NewBlock(id, long)
			wantBlock(t, "NewBlock", b, ok, blockOf(id, strings.Repeat("\x00", long)))
			wantDone(t, b, false)
		}
	}
}

func TestBlocksJustWithinTheirLimits(t *testing.T) {
	for _, b := range []impl.Block{
		blockOf(0, "\x00"), blockOf(1000, "\x00"), blockOf(0, "a", span(0, 1)), blockOf(0, "\x00", span(0, 1)),
		blockOf(0, strings.Repeat("\x00", 40)), blockOf(1000, counted(40, 1), span(0, 40)),
		blockOf(5, "ab\x00", span(0, 2)), blockOf(5, "\x00bc", span(1, 3)), blockOf(5, "a\x00c", span(0, 1), span(2, 3)),
		// Bytes 0 that are had, and that are not.
		blockOf(5, "\x00\x00\x00", span(0, 1), span(2, 3)), blockOf(5, "\x00\x00\x00", span(0, 3)),
		blockOf(5, strings.Repeat("a\x00", 20), rowOf(20, 0, 1, 2)...), blockOf(5, strings.Repeat("\x00a", 20), rowOf(20, 1, 1, 2)...),
		blockOf(5, "\xff\x00\xe2\x82", span(0, 1), span(2, 4)),
	} {
		if !impl.GoodBlock(b) {
			t.Errorf("GoodBlock(%#v): not good", b)
		}
		wantDone(t, b, len(b.Has) == 1 && b.Has[0] == span(0, b.Long))
	}
}

func TestEachByteThatIsNotHadIsZero(t *testing.T) {
	for long := 1; long <= 7; long++ {
		for set := range 1 << long {
			x := noneOf(long)
			for k := range x {
				if set>>k&1 == 1 {
					x[k] = 200 * (k % 3)
				}
			}
			b := x.block(3)
			if !impl.GoodBlock(b) {
				t.Errorf("GoodBlock(%#v): not good", b)
			}
			wantDone(t, b, set == 1<<long-1)
			for k := range x {
				for _, n := range []int{1, 127, 128, 255} {
					turned := []byte(b.Text)
					turned[k] = byte(n)
					spoilt := impl.Block{Id: 3, Long: long, Text: string(turned), Has: b.Has}
					if impl.GoodBlock(spoilt) != (x[k] >= 0) {
						t.Errorf("GoodBlock(%#v)", spoilt)
					}
				}
			}
		}
	}
}

func TestOnlyABlockThatHasAllIsDone(t *testing.T) {
	for long := 1; long <= impl.MaxBlock; long++ {
		all := blockOf(9, counted(long, 1), span(0, long))
		wantDone(t, all, true)
		wantDone(t, blockOf(9, strings.Repeat("\x00", long), span(0, long)), true)
		for k := range long {
			x := placesOf(all)
			x[k] = -1
			wantDone(t, x.block(9), false)
		}
	}
}

func TestTakingByHand(t *testing.T) {
	nothing := blockOf(7, "\x00\x00\x00\x00\x00\x00")
	for _, c := range []struct {
		b     impl.Block
		p     impl.Part
		want  impl.Block
		fresh int
	}{
		{nothing, part(7, 0, 6, "a"), blockOf(7, "a\x00\x00\x00\x00\x00", span(0, 1)), 1},
		{nothing, part(7, 0, 6, "abcd"), blockOf(7, "abcd\x00\x00", span(0, 4)), 4},
		{nothing, part(7, 2, 6, "cdef"), blockOf(7, "\x00\x00cdef", span(2, 6)), 4},
		{nothing, part(7, 5, 6, "f"), blockOf(7, "\x00\x00\x00\x00\x00f", span(5, 6)), 1},
		{nothing, part(7, 1, 6, "\x00\x00"), blockOf(7, "\x00\x00\x00\x00\x00\x00", span(1, 3)), 2},
		// They touch, on either side and on both.
		{blockOf(7, "ab\x00\x00\x00\x00", span(0, 2)), part(7, 2, 6, "cd"), blockOf(7, "abcd\x00\x00", span(0, 4)), 2},
		{blockOf(7, "\x00\x00\x00\x00ef", span(4, 6)), part(7, 2, 6, "cd"), blockOf(7, "\x00\x00cdef", span(2, 6)), 2},
		{blockOf(7, "ab\x00\x00ef", span(0, 2), span(4, 6)), part(7, 2, 6, "cd"), blockOf(7, "abcdef", span(0, 6)), 2},
		// They overlap: the byte that came first stays.
		{blockOf(7, "abc\x00\x00\x00", span(0, 3)), part(7, 1, 6, "XYZW"), blockOf(7, "abcZW\x00", span(0, 5)), 2},
		{blockOf(7, "\x00\x00\x00def", span(3, 6)), part(7, 1, 6, "XYZW"), blockOf(7, "\x00XYdef", span(1, 6)), 2},
		{blockOf(7, "\x00bc\x00\x00\x00", span(1, 3)), part(7, 0, 6, "WXYZ"), blockOf(7, "WbcZ\x00\x00", span(0, 4)), 2},
		{blockOf(7, "a\x00c\x00e\x00", span(0, 1), span(2, 3), span(4, 5)), part(7, 1, 6, "WXYZ"), blockOf(7, "aWcYe\x00", span(0, 5)), 2},
		// A byte 0 that came first stays, too.
		{blockOf(7, "\x00\x00\x00\x00\x00\x00", span(1, 2)), part(7, 0, 6, "WXY"), blockOf(7, "W\x00Y\x00\x00\x00", span(0, 3)), 2},
		// They lie within what is had.
		{blockOf(7, "abcd\x00\x00", span(0, 4)), part(7, 1, 6, "XY"), blockOf(7, "abcd\x00\x00", span(0, 4)), 0},
		{blockOf(7, "abcd\x00\x00", span(0, 4)), part(7, 0, 6, "abcd"), blockOf(7, "abcd\x00\x00", span(0, 4)), 0},
		{blockOf(7, "abcdef", span(0, 6)), part(7, 2, 6, "XYZW"), blockOf(7, "abcdef", span(0, 6)), 0},
		// They lie apart.
		{blockOf(7, "a\x00\x00\x00\x00\x00", span(0, 1)), part(7, 2, 6, "c"), blockOf(7, "a\x00c\x00\x00\x00", span(0, 1), span(2, 3)), 1},
	} {
		wantTaken(t, c.b, c.p, c.want, c.fresh)
	}
}

func TestTakingOfSmallBlocks(t *testing.T) {
	for long := 1; long <= 6; long++ {
		for set := range 1 << long {
			x := noneOf(long)
			for k := range x {
				if set>>k&1 == 1 {
					x[k] = 97 + k
				}
			}
			for at := range long {
				for many := 1; many <= min(impl.PartSize, long-at); many++ {
					p := part(1000, at, long, "WXYZ"[:many])
					want, fresh := x.after(p)
					wantTaken(t, x.block(1000), p, want.block(1000), fresh)
				}
			}
		}
	}
}

func TestTakingOfAnyBlocks(t *testing.T) {
	next := shaker(133)
	for k := range 4000 {
		long := 1 + next(impl.MaxBlock)
		x := shakenPlaces(long, k%5 > 0, next)
		p := shakenPart(k%1001, long, "", next)
		want, fresh := x.after(p)
		wantTaken(t, x.block(k%1001), p, want.block(k%1001), fresh)
	}
}

func TestAsManySpansAsABlockCanHave(t *testing.T) {
	for from := range 2 {
		x := noneOf(impl.MaxBlock)
		for n := from; n < impl.MaxBlock; n += 2 {
			p := part(1, n, impl.MaxBlock, "z")
			want, _ := x.after(p)
			wantTaken(t, x.block(1), p, want.block(1), 1)
			x = want
		}
		if len(x.block(1).Has) != impl.MaxSpans {
			t.Fatal("not as many spans as can be:", x.block(1))
		}
		for at := range impl.MaxBlock {
			for many := 1; many <= min(impl.PartSize, impl.MaxBlock-at); many++ {
				p := part(1, at, impl.MaxBlock, "WXYZ"[:many])
				want, fresh := x.after(p)
				wantTaken(t, x.block(1), p, want.block(1), fresh)
			}
		}
	}
}

func TestStoresJustWithinTheirLimits(t *testing.T) {
	for _, s := range []impl.Store{
		{}, {Told: []int{0}}, {Told: []int{1000}}, {Told: []int{0, 1000}}, {Told: fromBelow(0, 100)}, {Told: fromBelow(901, 1001)},
		{Blocks: beginnings(10, 0)}, {Blocks: beginnings(10, 991)}, {Blocks: beginnings(10, 991), Told: fromBelow(891, 991)},
		{Blocks: []impl.Block{blockOf(0, "\x00"), blockOf(1000, strings.Repeat("\x00", 40))}, Told: []int{1, 999}},
		{Blocks: beginnings(2, 5), Told: []int{4, 7}},
	} {
		if !impl.GoodStore(s) {
			t.Errorf("GoodStore(%#v): not good", s)
		}
	}
	for _, s := range storesToTry(40) {
		if !impl.GoodStore(s) {
			t.Errorf("GoodStore(%#v): not good", s)
		}
	}
}

func TestStoringByHand(t *testing.T) {
	half := impl.Store{Blocks: []impl.Block{blockOf(5, "\x00\x00c", span(2, 3))}, Told: []int{3, 8}}
	// A new block, at its place.
	wantStored(t, impl.Store{}, part(5, 2, 3, "c"), impl.Store{Blocks: half.Blocks}, "", false)
	wantStored(t, half, part(4, 0, 2, "x"), impl.Store{Blocks: []impl.Block{blockOf(4, "x\x00", span(0, 1)), half.Blocks[0]}, Told: half.Told}, "", false)
	wantStored(t, half, part(1000, 1, 2, "y"), impl.Store{Blocks: []impl.Block{half.Blocks[0], blockOf(1000, "\x00y", span(1, 2))}, Told: half.Told}, "", false)
	// More of it, and nothing new.
	wantStored(t, half, part(5, 0, 3, "a"), impl.Store{Blocks: []impl.Block{blockOf(5, "a\x00c", span(0, 1), span(2, 3))}, Told: half.Told}, "", false)
	wantStored(t, half, part(5, 2, 3, "Z"), half, "", false)
	// All of it: it leaves, and its Id is Told, at its place.
	wantStored(t, half, part(5, 0, 3, "abZ"), impl.Store{Told: []int{3, 5, 8}}, "abc", true)
	wantStored(t, half, part(5, 0, 3, "\x00\xff"), impl.Store{Told: []int{3, 5, 8}}, "\x00\xffc", true)
	// A whole text by itself.
	wantStored(t, impl.Store{}, wholeIn(0, "q"), impl.Store{Told: []int{0}}, "q", true)
	wantStored(t, half, wholeIn(0, "wxyz"), impl.Store{Blocks: half.Blocks, Told: []int{0, 3, 8}}, "wxyz", true)
	wantStored(t, half, wholeIn(1000, "\x00"), impl.Store{Blocks: half.Blocks, Told: []int{3, 8, 1000}}, "\x00", true)
}

func TestPartsThatChangeNothing(t *testing.T) {
	s := impl.Store{Blocks: []impl.Block{blockOf(5, "\x00\x00c", span(2, 3)), blockOf(7, "\x00")}, Told: []int{3, 8}}
	for _, id := range []int{3, 8} {
		for _, p := range []impl.Part{wholeIn(id, "a"), wholeIn(id, "abcd"), part(id, 3, 9, "x"), part(id, 36, 40, "wxyz")} {
			wantStored(t, s, p, s, "", false)
		}
	}
	for _, p := range []impl.Part{
		wholeIn(5, "ab"), wholeIn(5, "abcd"), part(5, 0, 4, "ab"), part(5, 0, 40, "ab"), part(5, 2, 4, "Z"), part(5, 0, 1, "a"), wholeIn(7, "ab"), part(7, 1, 2, "b"),
	} {
		wantStored(t, s, p, s, "", false)
	}
	// Where nothing more has room, too.
	full := impl.Store{Blocks: beginnings(10, 0), Told: fromBelow(100, 200)}
	for _, p := range []impl.Part{wholeIn(100, "a"), part(199, 0, 9, "abc"), wholeIn(0, "a"), wholeIn(9, "abc"), part(4, 1, 3, "z"), part(4, 0, 2, "z")} {
		wantStored(t, full, p, full, "", false)
	}
}

func TestTenBlocksAndOneMore(t *testing.T) {
	for _, from := range []int{1, 990} {
		s := impl.Store{Blocks: beginnings(mostBlocks, from), Told: []int{500}}
		for _, id := range []int{0, 499, lastId} {
			for _, p := range []impl.Part{part(id, 0, 2, "x"), part(id, 1, 2, "y"), part(id, 0, 5, "wxyz"), part(id, 36, 40, "wxyz")} {
				wantNotStored(t, s, p)
				// With one block less there is room.
				less := impl.Store{Blocks: s.Blocks[1:], Told: s.Told}
				x := shelfOf(less)
				x.put(p)
				wantStored(t, less, p, x.store(), "", false)
			}
			// What is a whole text by itself needs no room among blocks.
			for _, text := range []string{"x", "wxyz", "\x00", "\x00\x00\x00"} {
				told := []int{500, id}
				slices.Sort(told)
				wantStored(t, s, wholeIn(id, text), impl.Store{Blocks: s.Blocks, Told: told}, text, true)
			}
		}
		// One of the ten goes on, and one leaves.
		wantStored(t, s, part(from+4, 0, 2, "Z"), s, "", false)
		left := slices.Delete(slices.Clone(s.Blocks), 4, 5)
		told := []int{500, from + 4}
		slices.Sort(told)
		wantStored(t, s, part(from+4, 1, 2, "z"), impl.Store{Blocks: left, Told: told}, "bz", true)
	}
}

func TestAHundredToldAndOneMore(t *testing.T) {
	for _, many := range []int{0, 3, mostBlocks} {
		s := impl.Store{Blocks: beginnings(many, 200), Told: fromBelow(300, 300+mostTold)}
		less := impl.Store{Blocks: s.Blocks, Told: s.Told[1:]}
		for _, id := range []int{0, 299, 400, lastId} {
			wantNotStored(t, s, wholeIn(id, "x"))
			wantNotStored(t, s, wholeIn(id, "wxyz"))
			told := append(slices.Clone(less.Told), id)
			slices.Sort(told)
			wantStored(t, less, wholeIn(id, "wxyz"), impl.Store{Blocks: s.Blocks, Told: told}, "wxyz", true)
		}
		for k := range many {
			wantNotStored(t, s, part(200+k, 1, 2, "z"))
			wantNotStored(t, s, part(200+k, 0, 2, "Zz"))
			wantStored(t, s, part(200+k, 0, 2, "Z"), s, "", false)
			left := slices.Delete(slices.Clone(s.Blocks), k, k+1)
			wantStored(t, less, part(200+k, 1, 2, "z"), impl.Store{Blocks: left, Told: append([]int{200 + k}, less.Told...)}, "bz", true)
		}
		if many < mostBlocks {
			// What is only begun needs no room among Told.
			wantStored(t, s, part(0, 1, 2, "z"), impl.Store{Blocks: append([]impl.Block{blockOf(0, "\x00z", span(1, 2))}, s.Blocks...), Told: s.Told}, "", false)
		}
	}
}

func TestStoringInAnyStore(t *testing.T) {
	next := shaker(134)
	tells, refuses := 0, 0
	for _, s := range storesToTry(150) {
		for _, p := range partsFor(s, next) {
			x := shelfOf(s)
			text, is, ok := x.put(p)
			if !ok {
				refuses++
				wantNotStored(t, s, p)
				continue
			}
			if is {
				tells++
			}
			wantStored(t, s, p, x.store(), text, is)
		}
	}
	if tells < 500 || refuses < 200 {
		t.Error("too few to tell:", tells, refuses)
	}
}

func TestFeedingShakenParts(t *testing.T) {
	next := shaker(135)
	tells, refuses := 0, 0
	for k := range 1500 {
		ids, longs := 1+next(3+k%18), 1+next(4+k%37)
		var l []impl.Part
		for range next(mostFed + 1) {
			id := next(ids)
			long := 1 + id*7%longs
			if next(12) == 0 {
				long = 1 + next(impl.MaxBlock)
			}
			l = append(l, shakenPart(id*50, long, "", next))
		}
		want, told, ok := fed(l)
		if !ok {
			refuses++
			wantNotFed(t, l)
			continue
		}
		tells += len(told)
		wantFed(t, l, want, told)
	}
	if tells < 1000 || refuses < 10 {
		t.Error("too few to tell:", tells, refuses)
	}
}

func TestFeedingIsStoringOneByOne(t *testing.T) {
	next := shaker(136)
	for range 60 {
		var s impl.Store
		var l []impl.Part
		var told []string
		for range mostFed {
			id := next(6)
			p := shakenPart(id, 3+id, "", next)
			following, text, is, ok := impl.StorePart(s, p)
			if !ok {
				t.Fatalf("StorePart(%#v, %#v): false", s, p)
			}
			if is {
				told = append(told, text)
			}
			l, s = append(l, p), following
			wantFed(t, l, s, told)
		}
	}
}

func TestSixtyPartsAndOneMore(t *testing.T) {
	wantFed(t, nil, impl.Store{}, nil)
	wantFed(t, []impl.Part{}, impl.Store{}, nil)
	for _, p := range []impl.Part{wholeIn(3, "abcd"), part(3, 0, 40, "abcd"), part(3, 9, 10, "\x00")} {
		want, told, _ := fed([]impl.Part{p})
		for many := 1; many <= mostFed; many++ {
			wantFed(t, slices.Repeat([]impl.Part{p}, many), want, told)
		}
		for _, many := range []int{mostFed + 1, mostFed + 2, 100, 100000} {
			wantNotFed(t, slices.Repeat([]impl.Part{p}, many))
		}
	}
	var all []impl.Part
	var told []string
	for k := range mostFed + 1 {
		all = append(all, wholeIn(k*16, counted(1+k%4, k)))
		told = append(told, counted(1+k%4, k))
	}
	var ids []int
	for k := range mostFed {
		ids = append(ids, k*16)
	}
	wantFed(t, all[:mostFed], impl.Store{Told: ids}, told[:mostFed])
	wantNotFed(t, all)
	slices.Reverse(all)
	slices.Reverse(told)
	wantNotFed(t, all)
	wantFed(t, all[1:], impl.Store{Told: ids}, told[1:])
}

func TestFeedingWithoutRoomIsRefused(t *testing.T) {
	var l []impl.Part
	for k := range mostBlocks {
		l = append(l, part(k*3, 1, 2, "b"))
	}
	want, _, _ := fed(l)
	wantFed(t, l, want, nil)
	wantNotFed(t, append(slices.Clone(l), part(100, 0, 2, "a")))
	// Behind it nothing helps any more.
	wantNotFed(t, append(slices.Clone(l), part(100, 0, 2, "a"), part(0, 0, 2, "a"), part(100, 1, 2, "b")))
	want, told, _ := fed(append(slices.Clone(l), part(0, 0, 2, "a"), part(100, 0, 2, "a")))
	wantFed(t, append(slices.Clone(l), part(0, 0, 2, "a"), part(100, 0, 2, "a")), want, told)
	if len(told) != 1 || len(want.Blocks) != mostBlocks {
		t.Fatal("not what was to be tried:", told, want)
	}
	want, told, _ = fed(append(slices.Clone(l), wholeIn(100, "cd")))
	wantFed(t, append(slices.Clone(l), wholeIn(100, "cd")), want, told)
}

// wantToldOnce follows parts of one text, of which no more than 60 are fed, and wants the text told just where the last of its bytes has come.
func wantToldOnce(t *testing.T, text string, l []impl.Part) {
	t.Helper()
	var s impl.Store
	come := make([]bool, len(text))
	id, toldAt := l[0].Id, -1
	for k, p := range l {
		for n := range len(p.Text) {
			come[p.At+n] = true
		}
		next, told, is, ok := impl.StorePart(s, p)
		now := toldAt < 0 && !slices.Contains(come, false)
		if !ok || is != now || now && told != text || !now && told != "" {
			t.Fatalf("%#v of %#v, part %d: %#v, %t, %t", l, text, k, told, is, ok)
		}
		if now {
			toldAt = k
		}
		s = next
		if toldAt >= 0 && (len(s.Blocks) != 0 || !slices.Equal(s.Told, []int{id})) {
			t.Fatalf("%#v of %#v, part %d: %#v is left", l, text, k, s)
		}
	}
	if toldAt < 0 {
		t.Fatalf("%#v are not all of %#v", l, text)
	}
	wantFed(t, l, impl.Store{Told: []int{id}}, []string{text})
	wantFed(t, l[:toldAt+1], impl.Store{Told: []int{id}}, []string{text})
	if early, told, ok := impl.FeedStore(l[:toldAt]); !ok || len(told) != 0 || len(early.Told) != 0 {
		t.Errorf("%#v of %#v: %#v, %#v, %t", l[:toldAt], text, early, told, ok)
	}
}

// doubled has each part once at least, in the order, and others again at any place, as many as asked for.
func doubled(l []impl.Part, more int, next func(upto int) int) []impl.Part {
	all := slices.Clone(l)
	for range more {
		all = slices.Insert(all, next(len(all)+1), l[next(len(l))])
	}
	return all
}

func TestOneTextInAllOrders(t *testing.T) {
	next := shaker(137)
	for _, text := range []string{"a", "abcd", "abcde", counted(8, 250), counted(9, 1), "\x00\x00\x00\x00\x00\x00\x00\x00\x00\x00", counted(15, 100), counted(20, 0), counted(23, 120)} {
		l, _ := impl.PartsOf(12, text)
		for _, order := range everyOrder(len(l)) {
			var turned []impl.Part
			for _, k := range order {
				turned = append(turned, l[k])
			}
			wantToldOnce(t, text, turned)
			wantToldOnce(t, text, doubled(turned, 1+next(len(l)+2), next))
			wantToldOnce(t, text, slices.Concat(turned, turned))
		}
	}
}

func TestAnyTextInManyOrders(t *testing.T) {
	next := shaker(138)
	for k, text := range textsToTry() {
		l, ok := impl.PartsOf(k*3, text)
		if !ok {
			t.Fatalf("PartsOf(%q): false", text)
		}
		wantToldOnce(t, text, l)
		back := slices.Clone(l)
		slices.Reverse(back)
		wantToldOnce(t, text, back)
		wantToldOnce(t, text, slices.Concat(l, l, back))
		wantToldOnce(t, text, slices.Concat(back, l))
		for seed := range 12 {
			var turned []impl.Part
			for _, at := range shakenOrder(len(l), seed) {
				turned = append(turned, l[at])
			}
			wantToldOnce(t, text, turned)
			wantToldOnce(t, text, doubled(turned, next(mostFed-len(l)+1), next))
			wantToldOnce(t, text, doubled(turned, mostFed-len(l), next))
		}
	}
}

func TestAnyTextByPartsOfAnySize(t *testing.T) {
	next := shaker(139)
	for k := range 1500 {
		text := shakenText(1+next(16+k%25), next(6), next)
		var l []impl.Part
		for range next(30) {
			l = append(l, shakenPart(1000, len(text), text, next))
		}
		// Some of any size, and then in any case all of it.
		cut, _ := impl.PartsOf(1000, text)
		for _, at := range shakenOrder(len(cut), k) {
			l = append(l, cut[at])
		}
		for range next(10) {
			l = append(l, shakenPart(1000, len(text), text, next))
		}
		wantToldOnce(t, text, l)
	}
}

func TestTextsByTheByte(t *testing.T) {
	for _, text := range textsToTry() {
		var l []impl.Part
		for _, at := range shakenOrder(len(text), len(text)) {
			l = append(l, part(0, at, len(text), text[at:at+1]))
		}
		wantToldOnce(t, text, l)
	}
}

func TestPartsOfSeveralTextsMixed(t *testing.T) {
	next := shaker(140)
	for k := range 1200 {
		texts := map[int]string{}
		for range 1 + k%mostBlocks {
			texts[next(26)*40] = shakenText(1+next(20), next(6), next)
		}
		var parts []impl.Part
		for id := range lastId + 1 {
			if text, is := texts[id]; is {
				l, _ := impl.PartsOf(id, text)
				parts = append(parts, l...)
			}
		}
		var mixed []impl.Part
		for _, at := range shakenOrder(len(parts), k) {
			mixed = append(mixed, parts[at])
		}
		mixed = doubled(mixed, next(mostFed-len(mixed)+1), next)
		wantEachToldOnce(t, texts, mixed)
	}
}

func wantEachToldOnce(t *testing.T, texts map[int]string, mixed []impl.Part) {
	t.Helper()
	come := map[int]int{}
	var order []string
	var ids []int
	seen := map[impl.Part]bool{}
	for _, p := range mixed {
		if seen[p] {
			continue
		}
		seen[p] = true
		come[p.Id] += len(p.Text)
		if come[p.Id] == p.Long {
			order = append(order, texts[p.Id])
			ids = append(ids, p.Id)
		}
	}
	if len(order) != len(texts) {
		t.Fatal("not all of them came:", order, texts)
	}
	slices.Sort(ids)
	wantFed(t, mixed, impl.Store{Told: ids}, order)
}

func TestTheSameTextUnderTwoIds(t *testing.T) {
	text := "alike, twice"
	one, _ := impl.PartsOf(1, text)
	two, _ := impl.PartsOf(2, text)
	wantFed(t, slices.Concat(one, two, one, two), impl.Store{Told: []int{1, 2}}, []string{text, text})
	wantFed(t, []impl.Part{two[0], one[0], two[1], one[1], one[2], two[2]}, impl.Store{Told: []int{1, 2}}, []string{text, text})
	// Another text under an Id that was told is not begun anew.
	other, _ := impl.PartsOf(1, "quite another one")
	wantFed(t, slices.Concat(one, other, other), impl.Store{Told: []int{1}}, []string{text})
	// One as long whose parts come behind fills what is left alone.
	wantFed(t, []impl.Part{part(1, 0, 8, "ABCD"), part(1, 0, 8, "abcd"), part(1, 2, 8, "cdef"), part(1, 4, 8, "EFGH")}, impl.Store{Told: []int{1}}, []string{"ABCDefGH"})
}

var wrongIds = []int{-1, -2, -1000, 1001, 1002, 1 << 32, math.MinInt, math.MinInt + 1, math.MaxInt - 1, math.MaxInt}

var wrongLongs = []int{0, -1, -40, 41, 42, 1000, 1 << 32, 1<<32 + 3, math.MinInt, math.MinInt + 1, math.MinInt + 3, math.MaxInt - 1, math.MaxInt}

func TestWrongTextsHaveNoParts(t *testing.T) {
	for _, id := range wrongIds {
		for _, text := range []string{"", "a", "abcde", counted(40, 0), counted(41, 0)} {
			wantNoParts(t, id, text)
		}
	}
	for _, id := range []int{0, 7, lastId} {
		for _, text := range []string{"", counted(41, 0), counted(44, 0), strings.Repeat("a", 100000)} {
			wantNoParts(t, id, text)
		}
	}
}

func TestWrongNewBlocks(t *testing.T) {
	for _, id := range wrongIds {
		for _, long := range append([]int{1, 4, 40}, wrongLongs...) {
			wantNoNewBlock(t, id, long)
		}
	}
	for _, long := range wrongLongs {
		for _, id := range []int{0, 7, lastId} {
			wantNoNewBlock(t, id, long)
		}
	}
}

func wrongBlocks() []impl.Block {
	var all []impl.Block
	for _, id := range wrongIds {
		all = append(all, blockOf(id, "\x00"), blockOf(id, "abc", span(0, 3)), blockOf(id, "a\x00\x00", span(0, 1)))
	}
	for _, long := range wrongLongs {
		all = append(all, impl.Block{Id: 1, Long: long}, impl.Block{Id: 1, Long: long, Text: "\x00\x00\x00"}, impl.Block{Id: 1, Long: long, Text: "a\x00\x00", Has: []impl.Span{span(0, 1)}},
			impl.Block{Id: 1, Long: long, Text: strings.Repeat("\x00", min(max(long, 0), 2000))})
	}
	// A Text longer or shorter than Long.
	for _, long := range []int{1, 2, 3, 5, 39, 40} {
		for _, many := range []int{0, long - 1, long + 1, 2 * long, 100000} {
			all = append(all, impl.Block{Id: 1, Long: long, Text: strings.Repeat("\x00", many)})
			all = append(all, impl.Block{Id: 1, Long: long, Text: strings.Repeat("a", many), Has: []impl.Span{span(0, long)}})
		}
	}
	// Has that is no spans, or goes behind Long.
	for _, l := range wrongLists() {
		all = append(all, blockOf(1, strings.Repeat("\x00", 40), l...), blockOf(1, "\x00\x00\x00", l...), blockOf(1, "a", l...))
	}
	for _, l := range [][]impl.Span{{span(0, 4)}, {span(3, 4)}, {span(0, 1), span(2, 4)}, {span(0, 1), span(5, 6)}, {span(0, 41)}, {span(0, impl.MaxEnd)}, {span(impl.MaxEnd-1, impl.MaxEnd)}} {
		all = append(all, blockOf(1, "\x00\x00\x00", l...), blockOf(1, "abc", l...))
	}
	all = append(all, blockOf(1, strings.Repeat("\x00", 40), span(0, 41)), blockOf(1, strings.Repeat("\x00", 40), span(40, 41)))
	// A byte that is not 0 where Has has not its place.
	for _, text := range []string{"a", "\x80", "\xff", "\x01"} {
		all = append(all, blockOf(1, text), blockOf(1, "\x00"+text), blockOf(1, text+"\x00"), blockOf(1, "\x00"+text+"\x00", span(0, 1)), blockOf(1, "\x00"+text+"\x00", span(2, 3)),
			blockOf(1, "a"+text, span(0, 1)), blockOf(1, text+"a", span(1, 2)), blockOf(1, "a"+text+"a", span(0, 1), span(2, 3)))
	}
	return all
}

func wrongParts() []impl.Part {
	var all []impl.Part
	for _, id := range wrongIds {
		all = append(all, part(id, 0, 3, "a"), wholeIn(id, "abc"), part(id, 2, 3, "c"))
	}
	for _, long := range wrongLongs {
		all = append(all, part(1, 0, long, "a"), part(1, 0, long, "abc"), part(1, 2, long, "a"), part(1, long-1, long, "a"), part(1, 0, long, ""))
	}
	for _, long := range []int{1, 3, 4, 5, 40} {
		// With no Text, or with too much of it.
		for at := range long + 1 {
			all = append(all, part(1, at, long, ""), part(1, at, long, "abcde"), part(1, at, long, strings.Repeat("a", 40)), part(1, at, long, strings.Repeat("a", 100000)))
		}
		// With an At below 0, or one that ends behind Long.
		for many := 1; many <= impl.PartSize; many++ {
			text := "abcd"[:many]
			for _, at := range []int{-1, -2, -many, -4, -40, math.MinInt, math.MinInt + 1, math.MinInt + 40, math.MaxInt, math.MaxInt - 1, math.MaxInt - many, math.MaxInt - many + 1, long, long + 1, long - many + 1, 1 << 32} {
				if at < 0 || at > long-many {
					all = append(all, part(1, at, long, text))
				}
			}
		}
	}
	return append(all, impl.Part{}, impl.Part{Id: 1}, impl.Part{Text: "a"}, part(1, 0, 4, "abcde"))
}

func wrongStores() []impl.Store {
	var all []impl.Store
	for _, b := range wrongBlocks() {
		all = append(all, impl.Store{Blocks: []impl.Block{b}})
	}
	begun, other := blockOf(4, "a\x00", span(0, 1)), blockOf(6, "\x00\x00c", span(2, 3))
	wrong := blockOf(5, "a")
	done := blockOf(5, "abc", span(0, 3))
	for _, l := range [][]impl.Block{
		{done}, {begun, done}, {done, other}, {begun, done, other}, {blockOf(5, "\x00", span(0, 1))}, {blockOf(5, counted(40, 0), span(0, 40))},
		{begun, wrong}, {wrong, other}, {begun, wrong, other},
		{other, begun}, {begun, begun}, {begun, other, begun}, {begun, other, other}, {other, other, begun}, {begun, blockOf(4, "\x00z", span(1, 2))},
		beginnings(11, 0), beginnings(12, 500), append(beginnings(9, 0), beginnings(2, 8)...),
		make([]impl.Block, 11), slices.Repeat([]impl.Block{begun}, 1000),
	} {
		all = append(all, impl.Store{Blocks: l}, impl.Store{Blocks: l, Told: []int{700, 800}})
	}
	// Told, and yet among the blocks.
	for _, told := range [][]int{{4}, {6}, {4, 6}, {0, 4, 9}, {0, 6, 9}} {
		all = append(all, impl.Store{Blocks: []impl.Block{begun, other}, Told: told})
	}
	for _, told := range [][]int{
		{1, 0}, {0, 0}, {2, 3, 1}, {1, 2, 2}, {9, 9, 8}, {1000, 0}, {-1}, {-1, 0}, {0, -1}, {1001}, {0, 1001}, {1000, 1001},
		{math.MinInt}, {math.MinInt, 0}, {0, math.MinInt}, {0, math.MaxInt}, {math.MaxInt}, {math.MinInt, math.MaxInt},
		fromBelow(100, 201), fromBelow(0, 101), fromBelow(900, 1001), fromBelow(0, 1001), fromBelow(100, 300), make([]int, 2), make([]int, 100), make([]int, 100000),
	} {
		all = append(all, impl.Store{Told: told}, impl.Store{Blocks: []impl.Block{begun, other}, Told: told})
	}
	return all
}

func TestWrongBlocksAreRefused(t *testing.T) {
	for _, b := range wrongBlocks() {
		if impl.GoodBlock(b) {
			t.Errorf("GoodBlock(%#v)", b)
		}
		if is, ok := impl.IsDone(b); is || ok {
			t.Errorf("IsDone(%#v): %t, %t", b, is, ok)
		}
		for _, p := range []impl.Part{part(b.Id, 0, b.Long, "a"), part(b.Id, 0, len(b.Text), "a"), part(b.Id, 1, b.Long, "b"), part(b.Id, b.Long-1, b.Long, "z"), {}} {
			wantNotTaken(t, b, p)
		}
	}
}

func TestWrongPartsAreRefused(t *testing.T) {
	stores := []impl.Store{{}, {Told: []int{1}}, {Told: []int{0, 1, 1000}}, {Blocks: []impl.Block{blockOf(1, "a\x00\x00", span(0, 1))}}, {Blocks: beginnings(10, 1)}}
	blocks := []impl.Block{blockOf(1, "\x00"), blockOf(1, "\x00\x00\x00"), blockOf(1, "abc", span(0, 3)), blockOf(1, "\x00\x00\x00\x00"), blockOf(1, "\x00\x00\x00\x00\x00"), blockOf(1, strings.Repeat("\x00", 40))}
	good := wholeIn(9, "abc")
	for _, p := range wrongParts() {
		for _, b := range blocks {
			wantNotTaken(t, b, p)
			wantNotTaken(t, impl.Block{Id: p.Id, Long: p.Long, Text: b.Text, Has: b.Has}, p)
		}
		for _, s := range stores {
			// Of a Told Id, and of another Long than its block's, too.
			wantNotStored(t, s, p)
		}
		wantNotFed(t, []impl.Part{p})
		wantNotFed(t, []impl.Part{good, p})
		wantNotFed(t, []impl.Part{p, good})
		wantNotFed(t, []impl.Part{wholeIn(1, "a"), good, p, good})
	}
}

func TestPartsOfAnotherBlockAreNotTaken(t *testing.T) {
	for _, b := range []impl.Block{blockOf(5, "\x00\x00\x00"), blockOf(5, "a\x00\x00", span(0, 1)), blockOf(5, "abc", span(0, 3))} {
		for _, p := range []impl.Part{part(4, 0, 3, "a"), part(6, 0, 3, "a"), part(0, 0, 3, "abc"), part(5, 0, 2, "a"), part(5, 0, 4, "a"), part(5, 0, 40, "a"), part(3, 0, 5, "a")} {
			wantNotTaken(t, b, p)
		}
		for id := range lastId + 1 {
			for long := 1; long <= impl.MaxBlock; long += 1 + id%7 {
				if p := part(id, long-1, long, "z"); id != 5 || long != 3 {
					wantNotTaken(t, b, p)
				}
			}
		}
	}
}

func TestWrongStoresAreRefused(t *testing.T) {
	for _, s := range wrongStores() {
		if impl.GoodStore(s) {
			t.Errorf("GoodStore(%#v)", s)
		}
		l := []impl.Part{wholeIn(0, "a"), wholeIn(500, "abc"), part(700, 0, 9, "a"), part(4, 1, 2, "b"), part(5, 0, 3, "x"), wholeIn(4, "ab"), {}}
		for k, b := range s.Blocks {
			if k < 12 {
				l = append(l, part(b.Id, 0, b.Long, "a"), part(b.Id, b.Long-1, b.Long, "a"))
			}
		}
		for k, id := range s.Told {
			if k < 5 {
				l = append(l, wholeIn(id, "ab"))
			}
		}
		for _, p := range l {
			wantNotStored(t, s, p)
		}
	}
}

var (
	hiddenPart  = part(-7, -7, -7, hiddenPiece)
	hiddenBlock = impl.Block{Id: -7, Long: -7, Text: hiddenPiece}
)

func copiedStore(s impl.Store) impl.Store {
	c := impl.Store{Told: slices.Clone(s.Told)}
	for _, b := range s.Blocks {
		c.Blocks = append(c.Blocks, impl.Block{Id: b.Id, Long: b.Long, Text: strings.Clone(b.Text), Has: slices.Clone(b.Has)})
	}
	return c
}

func withHiddenBlock(b impl.Block) impl.Block {
	return impl.Block{Id: b.Id, Long: b.Long, Text: strings.Clone(b.Text), Has: withHidden(b.Has, secret)}
}

// withHiddenStore has something behind the length of each of its lists, those within its blocks among them.
func withHiddenStore(s impl.Store) impl.Store {
	hidden := impl.Store{Told: withHidden(s.Told, hiddenNumber)}
	for _, b := range s.Blocks {
		hidden.Blocks = append(hidden.Blocks, withHiddenBlock(b))
	}
	hidden.Blocks = withHidden(hidden.Blocks, hiddenBlock)
	return hidden
}

func wantBlockUnchanged(t *testing.T, what string, given, were impl.Block) {
	t.Helper()
	wantUnchanged(t, what, given.Has, were.Has, secret)
	if !sameBlock(given, were) {
		t.Errorf("%s: %#v has become %#v", what, were, given)
	}
}

func wantStoreUnchanged(t *testing.T, what string, given, were impl.Store) {
	t.Helper()
	wantUnchanged(t, what, given.Told, were.Told, hiddenNumber)
	if len(given.Blocks) != len(were.Blocks) {
		t.Fatalf("%s: %#v has become %#v", what, were, given)
	}
	for k := range given.Blocks {
		wantBlockUnchanged(t, what, given.Blocks[k], were.Blocks[k])
	}
	for _, b := range given.Blocks[len(given.Blocks):cap(given.Blocks)] {
		if !sameBlock(b, hiddenBlock) {
			t.Fatalf("%s: written behind the list of blocks", what)
		}
	}
}

// wreckedStore writes all over an answer, as far as its memory goes.
func wreckedStore(t *testing.T, what string, s impl.Store) {
	t.Helper()
	wrecked(t, what, s.Told, hiddenNumber)
	whole := s.Blocks[:cap(s.Blocks)]
	for _, b := range whole[len(s.Blocks):] {
		if !isNoBlock(b) {
			t.Errorf("%s: %#v is left behind the list of blocks", what, b)
		}
	}
	for k, b := range whole {
		wrecked(t, what, b.Has, secret)
		whole[k] = impl.Block{Id: -1}
	}
}

func textsOf(s impl.Store) []string {
	var l []string
	for _, b := range s.Blocks {
		l = append(l, b.Text)
	}
	return l
}

// wantHasApart writes into each Has in turn, and looks whether another one has it too.
func wantHasApart(t *testing.T, what string, s impl.Store) {
	t.Helper()
	var all [][]impl.Span
	for _, b := range s.Blocks {
		all = append(all, b.Has[:cap(b.Has)])
	}
	for k, l := range all {
		mark := span(-1000-k, -1000-k)
		for at := range l {
			l[at] = mark
		}
		for other, m := range all {
			if other != k && slices.Contains(m, mark) {
				t.Errorf("%s: two lists within blocks share memory", what)
			}
		}
	}
}

func TestBlocksAreNotWrittenInto(t *testing.T) {
	next := shaker(141)
	blocks := append(wrongBlocks(), blockOf(1, strings.Repeat("a\x00", 20), rowOf(20, 0, 1, 2)...), impl.Block{Id: 1, Long: 2, Text: "\x00\x00", Has: []impl.Span{}})
	for range 300 {
		blocks = append(blocks, shakenPlaces(1+next(impl.MaxBlock), next(3) > 0, next).block(next(1001)))
	}
	for _, were := range blocks {
		given := withHiddenBlock(were)
		is, ok := impl.IsDone(given)
		plain, same := impl.IsDone(were)
		if impl.GoodBlock(given) != impl.GoodBlock(were) || is != plain || ok != same {
			t.Errorf("%#v hangs on what lies behind its list", were)
		}
		wantBlockUnchanged(t, "GoodBlock, IsDone", given, were)
		parts := []impl.Part{part(were.Id, 0, were.Long, strings.Clone("WXYZ")), part(were.Id, 1, were.Long, "x"), part(1, 0, 2, "y"), {}}
		if impl.GoodBlock(were) {
			parts = append(parts, shakenPart(were.Id, were.Long, "", next), shakenPart(were.Id, were.Long, "", next))
		}
		for _, p := range parts {
			wantTakingUntouched(t, given, were, p)
		}
	}
}

func wantTakingUntouched(t *testing.T, given, were impl.Block, p impl.Part) {
	t.Helper()
	got, n, ok := impl.TakePart(given, p)
	plain, fresh, same := impl.TakePart(were, p)
	if !sameBlock(got, plain) || n != fresh || ok != same {
		t.Errorf("TakePart(%#v, %#v): %#v, %d, %t, and %#v, %d, %t", were, p, got, n, ok, plain, fresh, same)
	}
	wantOwnTexts(t, "TakePart", []string{got.Text, plain.Text}, given.Text, were.Text, p.Text)
	again, _, _ := impl.TakePart(given, p)
	wrecked(t, "TakePart", got.Has, secret)
	wantBlockUnchanged(t, "TakePart", given, were)
	if !sameBlock(again, plain) {
		t.Errorf("TakePart(%#v, %#v): two answers share memory", were, p)
	}
}

func TestStoresAreNotWrittenInto(t *testing.T) {
	next := shaker(142)
	for _, were := range append(storesToTry(60), wrongStores()...) {
		given := withHiddenStore(were)
		if impl.GoodStore(given) != impl.GoodStore(were) {
			t.Errorf("GoodStore(%#v) hangs on what lies behind its lists", were)
		}
		wantStoreUnchanged(t, "GoodStore", given, were)
		parts := []impl.Part{{}, wholeIn(1001, "a"), part(1, 2, 3, "abcd"), wholeIn(4, "ab"), part(4, 1, 2, "b")}
		if impl.GoodStore(were) {
			parts = append(parts, partsFor(were, next)...)
		}
		for _, p := range parts {
			wantStoringUntouched(t, given, were, p)
		}
	}
}

func wantStoringUntouched(t *testing.T, given, were impl.Store, p impl.Part) {
	t.Helper()
	p.Text = strings.Clone(p.Text)
	got, text, is, ok := impl.StorePart(given, p)
	plain, told, tells, same := impl.StorePart(copiedStore(were), p)
	if !sameStore(got, plain) || text != told || is != tells || ok != same {
		t.Errorf("StorePart(%#v, %#v): %#v, %#v, %t, %t, and %#v, %#v, %t, %t", were, p, got, text, is, ok, plain, told, tells, same)
	}
	wantOwnTexts(t, "StorePart", append(textsOf(got), text), append(textsOf(given), p.Text)...)
	again, _, _, _ := impl.StorePart(given, p)
	wantOwnTexts(t, "StorePart again", append(textsOf(got), text), textsOf(again)...)
	wreckedStore(t, "StorePart", got)
	wantStoreUnchanged(t, "StorePart", given, were)
	if !sameStore(again, plain) {
		t.Errorf("StorePart(%#v, %#v): two answers share memory", were, p)
	}
	wantHasApart(t, "StorePart", again)
}

func TestPartsAreNotWrittenInto(t *testing.T) {
	next := shaker(143)
	lists := [][]impl.Part{nil, {}, wrongParts()[:3], {{}}, {wholeIn(1, "a"), {}}, slices.Repeat([]impl.Part{wholeIn(1, "a")}, 61)}
	for k := range 200 {
		var l []impl.Part
		for range next(mostFed + 3) {
			id := next(2 + k%12)
			l = append(l, shakenPart(id*9, 2+id, "", next))
		}
		lists = append(lists, l)
	}
	for _, were := range lists {
		given := withHidden(were, hiddenPart)
		var texts []string
		for k := range given {
			given[k].Text = strings.Clone(given[k].Text)
			texts = append(texts, given[k].Text)
		}
		got, told, ok := impl.FeedStore(given)
		plain, same, is := impl.FeedStore(were)
		if !sameStore(got, plain) || !slices.Equal(told, same) || ok != is {
			t.Errorf("FeedStore(%#v): %#v, %#v, %t, and %#v, %#v, %t", were, got, told, ok, plain, same, is)
		}
		wantOwnTexts(t, "FeedStore", slices.Concat(textsOf(got), told), texts...)
		wantOwnTexts(t, "FeedStore again", slices.Concat(textsOf(got), told), slices.Concat(textsOf(plain), same)...)
		again, _, _ := impl.FeedStore(given)
		wreckedStore(t, "FeedStore", got)
		wrecked(t, "FeedStore", told, hiddenPiece)
		wantUnchanged(t, "FeedStore", given, were, hiddenPart)
		if !sameStore(again, plain) {
			t.Errorf("FeedStore(%#v): two answers share memory", were)
		}
		wantHasApart(t, "FeedStore", again)
	}
}

func TestPartsAndNewBlocksAreTheirOwn(t *testing.T) {
	for _, text := range textsToTry() {
		given := strings.Clone(text)
		l, _ := impl.PartsOf(7, given)
		again, _ := impl.PartsOf(7, given)
		var pieces, others []string
		for k := range l {
			pieces, others = append(pieces, l[k].Text), append(others, again[k].Text)
		}
		wantOwnTexts(t, "PartsOf", pieces, append(others, given)...)
		wrecked(t, "PartsOf", l, hiddenPart)
		if !slices.Equal(again, cutOf(7, text)) {
			t.Errorf("PartsOf(%q): two answers share memory", text)
		}
		one, _ := impl.NewBlock(1, len(text))
		two, _ := impl.NewBlock(1, len(text))
		wantOwnTexts(t, "NewBlock", []string{one.Text, two.Text})
	}
}

func TestBlocksThatShareTheirSpans(t *testing.T) {
	// All that is given lies in one piece of memory, and has one Text.
	piece := []impl.Span{span(0, 1), span(3, 4), span(6, 7)}
	text := "a\x00\x00b\x00\x00c\x00"
	given := impl.Store{Blocks: []impl.Block{blockOf(1, text, piece...), blockOf(2, text, piece...), blockOf(3, text, piece...)}, Told: []int{5, 9}}
	for _, p := range []impl.Part{part(2, 1, 8, "xy"), part(2, 0, 8, "z"), part(5, 0, 8, "z"), wholeIn(3, "ab"), wholeIn(4, "new"), part(4, 0, 2, "n")} {
		x := shelfOf(given)
		told, is, _ := x.put(p)
		wantStored(t, given, p, x.store(), told, is)
		got, _, _, _ := impl.StorePart(given, p)
		wantOwnTexts(t, "StorePart", textsOf(got), text)
		wantHasApart(t, "StorePart", got)
		if !slices.Equal(piece, []impl.Span{span(0, 1), span(3, 4), span(6, 7)}) {
			t.Fatal("what was given is written into:", piece)
		}
	}
}

func TestWhatLiesBehindAStoreIsNotRead(t *testing.T) {
	// Good ones lie behind, and would be taken up if they were read.
	blocks := beginnings(3, 4)
	has := []impl.Span{span(0, 1), span(2, 3)}
	told := []int{1, 2, 3}
	s := impl.Store{Blocks: blocks[:1], Told: told[:1]}
	wantStored(t, s, part(5, 0, 2, "z"), impl.Store{Blocks: []impl.Block{blocks[0], blockOf(5, "z\x00", span(0, 1))}, Told: []int{1}}, "", false)
	wantStored(t, s, part(4, 1, 2, "z"), impl.Store{Told: []int{1, 4}}, "bz", true)
	wantStored(t, s, wholeIn(2, "ab"), impl.Store{Blocks: blocks[:1], Told: []int{1, 2}}, "ab", true)
	wantTaken(t, blockOf(7, "a\x00\x00", has[:1]...), part(7, 2, 3, "c"), blockOf(7, "a\x00c", span(0, 1), span(2, 3)), 1)
	wantDone(t, blockOf(7, "a", has[:1]...), true)
	l := []impl.Part{part(7, 0, 2, "a"), part(7, 1, 2, "b")}
	wantFed(t, l[:1], impl.Store{Blocks: []impl.Block{blockOf(7, "a\x00", span(0, 1))}}, nil)
	if !slices.EqualFunc(blocks, beginnings(3, 4), sameBlock) || !slices.Equal(told, []int{1, 2, 3}) || !slices.Equal(has, []impl.Span{span(0, 1), span(2, 3)}) {
		t.Error("written behind a list's length:", blocks, told, has)
	}
}

func TestStoresHangOnWhatIsGivenAlone(t *testing.T) {
	// Many times over, as a map is gone through in another order each time.
	s := impl.Store{Blocks: beginnings(10, 40), Told: fromBelow(300, 390)}
	left := slices.Delete(beginnings(10, 40), 6, 7)
	told := append([]int{46}, s.Told...)
	var l []impl.Part
	for k := range mostBlocks {
		l = append(l, part(900-k*7, 1, 3, "mn"))
	}
	want, _, _ := fed(l)
	for range 200 {
		wantStored(t, s, part(46, 1, 2, "z"), impl.Store{Blocks: left, Told: told}, "bz", true)
		wantFed(t, l, want, nil)
	}
}

func TestTextsToldAreNotPlainOnly(t *testing.T) {
	for _, odd := range oddTexts {
		text := odd + "\x00" + odd
		l, ok := impl.PartsOf(1, text)
		if !ok || !bytes.Equal(joinedUp(l), []byte(text)) {
			t.Errorf("PartsOf(%#v): %#v, %t", text, l, ok)
		}
		slices.Reverse(l)
		wantToldOnce(t, text, l)
	}
}

func joinedUp(l []impl.Part) []byte {
	var all []byte
	for _, p := range l {
		all = append(all, p.Text...)
	}
	return all
}
