package tests

import (
	"math"
	"slices"
	"strings"
	"testing"

	"loop.example/g00527/impl"
)

const mostWoven = 120
const mostDeep = 12

// hiddenPiece stands behind the lists' lengths.
const hiddenPiece = "\xfehidden"

// oddTexts are bytes that are no plain text: cut off, too long for what they are, out of place.
var oddTexts = []string{
	"\x00", "\xff", "\x80", "\xc0\x80", "\xe0\x80\x80", "\xf0\x80\x80\x80", "\xed\xa0\x80", "\xef\xbf\xbd", "\xc3", "\xe2\x82",
	"\xf4\x90\x80\x80", "\x00\x80", "\x80\x00", "\x00\xff\x00", "\xc3\xa9", "\xe2\x82\xac", "\xf0\x9f\x98\x80", "\x7f\x80\xff\x00",
}

// The ones from here on are written apart from the program, to be held against it.

// oddBits counts for each bit the pieces that have it.
func oddBits(long int, l []string) string {
	var parity []byte
	for at := range long {
		all := 0
		for bit := 1; bit < 256; bit *= 2 {
			many := 0
			for _, piece := range l {
				if int(piece[at])/bit%2 == 1 {
					many++
				}
			}
			if many%2 == 1 {
				all += bit
			}
		}
		parity = append(parity, byte(all))
	}
	return string(parity)
}

// inRows cuts the bytes into rows that are as long as each other.
func inRows(s string, deep int) []string {
	rows := make([]string, deep)
	for k := range rows {
		rows[k] = s[k*len(s)/deep : (k+1)*len(s)/deep]
	}
	return rows
}

func woven(s string, deep int) string {
	rows := inRows(s, deep)
	b := make([]byte, len(s))
	for at := range b {
		b[at] = rows[at%deep][at/deep]
	}
	return string(b)
}

func unwoven(s string, deep int) string {
	rows := make([]string, deep)
	for at := range len(s) {
		rows[at%deep] += s[at : at+1]
	}
	return strings.Join(rows, "")
}

func burst(s string, from, long int) string {
	b := []byte(s)
	for at := range b {
		if at >= from && at-from < long {
			b[at] = 255 - b[at]
		}
	}
	return string(b)
}

func rowsUnder(deep, from, long int) []int {
	var rows []int
	for row := range deep {
		for at := range long {
			if (from+at)%deep == row {
				rows = append(rows, row)
				break
			}
		}
	}
	return rows
}

func cutUp(s string, many int) []string {
	long := 0
	for long*many < len(s) {
		long++
	}
	filled := s + strings.Repeat("\x00", long*many-len(s))
	return inRows(filled, many)
}

// shakenText is of a kind: 0 any bytes, 1 plain ones, 2 all 0, 3 all 255, 4 0 and 255, 5 from the odd texts.
func shakenText(long, kind int, next func(upto int) int) string {
	b := make([]byte, 0, long+4)
	for len(b) < long {
		switch kind {
		case 0:
			b = append(b, byte(next(256)))
		case 1:
			b = append(b, byte(32+next(95)))
		case 2:
			b = append(b, 0)
		case 3:
			b = append(b, 255)
		case 4:
			b = append(b, byte(255*next(2)))
		default:
			b = append(b, oddTexts[next(len(oddTexts))]...)
		}
	}
	return string(b[:long])
}

// piecesToTry are of each number up to most, of each length and of each kind, so many each.
func piecesToTry(most, each int) [][]string {
	next := shaker(121)
	var all [][]string
	for many := 1; many <= most; many++ {
		for long := range impl.MaxPiece + 1 {
			for k := range 6 * each {
				l := make([]string, many)
				for at := range l {
					l[at] = shakenText(long, k%6, next)
				}
				all = append(all, l)
			}
		}
	}
	return all
}

// counted are bytes of which no two are alike.
func counted(many, from int) string {
	b := make([]byte, many)
	for k := range b {
		b[k] = byte(from + k)
	}
	return string(b)
}

func wovenToTry(many int) []string {
	next := shaker(many + 5)
	all := []string{counted(many, 0), counted(many, 136)}
	for kind := range 6 {
		all = append(all, shakenText(many, kind, next))
	}
	return all
}

// multiplesOf are all up to the most that can be woven.
func multiplesOf(deep int) []int {
	var all []int
	for many := 0; many <= mostWoven; many += deep {
		all = append(all, many)
	}
	return all
}

func wantBytes(t *testing.T, what string, got string, ok bool, want string) {
	t.Helper()
	if got != want || !ok {
		t.Errorf("%s: %q, %t, not %q", what, got, ok, want)
	}
}

func wantNoBytes(t *testing.T, what string, got string, ok bool) {
	t.Helper()
	if got != "" || ok {
		t.Errorf("%s: %q, %t", what, got, ok)
	}
}

func wantPieces(t *testing.T, what string, got []string, ok bool, want []string) {
	t.Helper()
	if !ok || !slices.Equal(got, want) {
		t.Errorf("%s: %q, %t, not %q", what, got, ok, want)
	}
}

func wantNoPieces(t *testing.T, what string, got []string, ok bool) {
	t.Helper()
	if ok || len(got) != 0 {
		t.Errorf("%s: %q, %t", what, got, ok)
	}
}

func wantWhole(t *testing.T, l []string, want bool) {
	t.Helper()
	if is, ok := impl.IsWhole(l); is != want || !ok {
		t.Errorf("IsWhole(%q): %t, %t", l, is, ok)
	}
}

func wantRowsHit(t *testing.T, many, deep, from, long int, want []int) {
	t.Helper()
	if rows, ok := impl.RowsHit(many, deep, from, long); !ok || !slices.Equal(rows, want) {
		t.Errorf("RowsHit(%d, %d, %d, %d): %v, %t, not %v", many, deep, from, long, rows, ok, want)
	}
}

func wantNoRowsHit(t *testing.T, many, deep, from, long int) {
	t.Helper()
	if rows, ok := impl.RowsHit(many, deep, from, long); ok || len(rows) != 0 {
		t.Errorf("RowsHit(%d, %d, %d, %d): %v, %t", many, deep, from, long, rows, ok)
	}
}

// withPiece is the same but for the one at k.
func withPiece(l []string, k int, piece string) []string {
	l = slices.Clone(l)
	l[k] = piece
	return l
}

func TestLimitsOfPieces(t *testing.T) {
	if impl.MaxPieces != 8 || impl.MaxPiece != 16 {
		t.Error(impl.MaxPieces, impl.MaxPiece)
	}
}

func TestParityByHand(t *testing.T) {
	for _, c := range []struct {
		l    []string
		want string
	}{
		{[]string{""}, ""},
		{[]string{"", ""}, ""},
		{slices.Repeat([]string{""}, impl.MaxPieces), ""},
		{[]string{"a"}, "a"},
		{[]string{"\x00"}, "\x00"},
		{[]string{"\xff"}, "\xff"},
		{[]string{"a", "a"}, "\x00"},
		{[]string{"a", "a", "a"}, "a"},
		{[]string{"\x00", "\xff"}, "\xff"},
		{[]string{"\xff", "\xff"}, "\x00"},
		{[]string{"\x0f", "\xf0"}, "\xff"},
		{[]string{"\x01", "\x03", "\x06"}, "\x04"},
		{[]string{"\xc3\xa9", "\xc3\xa8"}, "\x00\x01"},
		{[]string{"ab", "ba"}, "\x03\x03"},
		{[]string{"abc", "\x00\x00\x00"}, "abc"},
		{[]string{"abc", "\xff\xff\xff"}, "\x9e\x9d\x9c"},
		{[]string{"\x01", "\x02", "\x04", "\x08", "\x10", "\x20", "\x40", "\x80"}, "\xff"},
		{[]string{counted(16, 0), counted(16, 16)}, strings.Repeat("\x10", 16)},
		{slices.Repeat([]string{strings.Repeat("\xff", impl.MaxPiece)}, impl.MaxPieces), strings.Repeat("\x00", impl.MaxPiece)},
		{slices.Repeat([]string{strings.Repeat("\xff", impl.MaxPiece)}, impl.MaxPieces-1), strings.Repeat("\xff", impl.MaxPiece)},
	} {
		got, ok := impl.ParityOf(c.l)
		wantBytes(t, "ParityOf", got, ok, c.want)
		if told := oddBits(len(c.l[0]), c.l); told != c.want {
			t.Errorf("%q: told apart %q", c.l, told)
		}
	}
}

func TestParityBitForBit(t *testing.T) {
	for _, l := range piecesToTry(impl.MaxPieces, 4) {
		want := oddBits(len(l[0]), l)
		got, ok := impl.ParityOf(l)
		wantBytes(t, "ParityOf", got, ok, want)
		wantWhole(t, l, want == strings.Repeat("\x00", len(want)))
		turned := slices.Clone(l)
		slices.Reverse(turned)
		got, ok = impl.ParityOf(turned)
		wantBytes(t, "ParityOf the other way round", got, ok, want)
	}
	for a := range 256 {
		for b := range 256 {
			l := []string{counted(1, a), counted(1, b)}
			got, ok := impl.ParityOf(l)
			wantBytes(t, "ParityOf", got, ok, oddBits(1, l))
			wantWhole(t, l, a == b)
		}
	}
}

func TestParityBehind(t *testing.T) {
	for _, l := range piecesToTry(impl.MaxPieces-1, 4) {
		got, ok := impl.WithParity(l)
		wantPieces(t, "WithParity", got, ok, append(slices.Clone(l), oddBits(len(l[0]), l)))
		wantWhole(t, got, true)
	}
	got, ok := impl.WithParity([]string{"a"})
	wantPieces(t, "WithParity", got, ok, []string{"a", "a"})
	got, ok = impl.WithParity([]string{""})
	wantPieces(t, "WithParity", got, ok, []string{"", ""})
	got, ok = impl.WithParity([]string{"ab", "ba", "\x00\x01"})
	wantPieces(t, "WithParity", got, ok, []string{"ab", "ba", "\x00\x01", "\x03\x02"})
}

func TestNoParityBehindAsManyAsCanBe(t *testing.T) {
	for _, l := range piecesToTry(impl.MaxPieces, 1) {
		got, ok := impl.WithParity(l)
		if len(l) == impl.MaxPieces {
			wantNoPieces(t, "WithParity", got, ok)
		} else if !ok || len(got) != len(l)+1 {
			t.Errorf("WithParity(%q): %q, %t", l, got, ok)
		}
	}
}

func TestAnyOneLostPieceIsMended(t *testing.T) {
	next := shaker(122)
	for _, l := range piecesToTry(impl.MaxPieces-1, 3) {
		all, ok := impl.WithParity(l)
		if !ok {
			t.Fatalf("WithParity(%q): false", l)
		}
		for k, lost := range all {
			got, ok := impl.MendPiece(all, k)
			wantBytes(t, "MendPiece", got, ok, lost)
			for kind := range 6 {
				// Whatever stands in its place now is not looked at.
				got, ok := impl.MendPiece(withPiece(all, k, shakenText(len(lost), kind, next)), k)
				wantBytes(t, "MendPiece of what is left", got, ok, lost)
			}
		}
	}
}

func TestMendedOfAllOthers(t *testing.T) {
	for _, l := range piecesToTry(impl.MaxPieces, 2) {
		for k := range l {
			others := slices.Delete(slices.Clone(l), k, k+1)
			got, ok := impl.MendPiece(l, k)
			wantBytes(t, "MendPiece", got, ok, oddBits(len(l[0]), others))
		}
	}
}

func TestMendedByHand(t *testing.T) {
	l := []string{"ab", "ba", "\x03\x03"}
	for k, want := range l {
		got, ok := impl.MendPiece(withPiece(l, k, "??"), k)
		wantBytes(t, "MendPiece", got, ok, want)
	}
	got, ok := impl.MendPiece([]string{"a", "b"}, 0)
	wantBytes(t, "MendPiece", got, ok, "b")
	got, ok = impl.MendPiece([]string{"a", "b"}, 1)
	wantBytes(t, "MendPiece", got, ok, "a")
	got, ok = impl.MendPiece([]string{"", ""}, 1)
	wantBytes(t, "MendPiece", got, ok, "")
}

func TestOnePieceAloneIsMended(t *testing.T) {
	for long := range impl.MaxPiece + 1 {
		zeros := strings.Repeat("\x00", long)
		// It is a whole of its own, and comes back like any other piece that is lost.
		wantWhole(t, []string{zeros}, true)
		for _, piece := range []string{zeros, strings.Repeat("\xff", long), counted(long, 97), counted(long, 240)} {
			got, ok := impl.MendPiece([]string{piece}, 0)
			wantBytes(t, "MendPiece of one alone", got, ok, zeros)
			for _, k := range append([]int{1, 2, impl.MaxPieces}, wrongInts...) {
				got, ok := impl.MendPiece([]string{piece}, k)
				wantNoBytes(t, "MendPiece of one alone", got, ok)
			}
		}
	}
	for _, l := range [][]string{nil, {}, {counted(impl.MaxPiece+1, 0)}} {
		got, ok := impl.MendPiece(l, 0)
		wantNoBytes(t, "MendPiece", got, ok)
		got, ok = impl.ParityOf(l)
		wantNoBytes(t, "ParityOf", got, ok)
	}
	// A good one that lies behind the list's length is none of the others.
	got, ok := impl.MendPiece([]string{"ab", "cd"}[:1], 0)
	wantBytes(t, "MendPiece of one alone", got, ok, "\x00\x00")
}

func TestOneTurnedBitIsNotWhole(t *testing.T) {
	for _, l := range piecesToTry(impl.MaxPieces-1, 1) {
		all, _ := impl.WithParity(l)
		for k, piece := range all {
			for at := range len(piece) {
				b := []byte(piece)
				b[at] ^= 1 << ((at + k) % 8)
				wantWhole(t, withPiece(all, k, string(b)), false)
				wantWhole(t, withPiece(all, k, burst(piece, at, 1)), false)
			}
		}
	}
	for at := range impl.MaxPiece {
		for bit := range 8 {
			b := make([]byte, impl.MaxPiece)
			b[at] = 1 << bit
			wantWhole(t, []string{string(b)}, false)
		}
	}
}

func TestWholeByHand(t *testing.T) {
	for long := range impl.MaxPiece + 1 {
		for many := 1; many <= impl.MaxPieces; many++ {
			wantWhole(t, slices.Repeat([]string{strings.Repeat("\x00", long)}, many), true)
			wantWhole(t, slices.Repeat([]string{strings.Repeat("\xff", long)}, many), many%2 == 0 || long == 0)
		}
	}
	// A parity that is no plain text is read right, too.
	for _, odd := range oddTexts {
		for _, piece := range []string{odd, "\x00" + odd, odd + "\x00", "\x00\x00" + odd + "\x00"} {
			whole := strings.Count(piece, "\x00") == len(piece)
			wantWhole(t, []string{piece}, whole)
			wantWhole(t, []string{piece, strings.Repeat("\x00", len(piece))}, whole)
			wantWhole(t, []string{piece, piece}, true)
			wantWhole(t, []string{piece, "\x30" + strings.Repeat("z", len(piece)-1), "\x30" + strings.Repeat("z", len(piece)-1)}, whole)
		}
	}
	for n := range 256 {
		wantWhole(t, []string{counted(1, n)}, n == 0)
		for m := range 256 {
			wantWhole(t, []string{counted(1, n) + counted(1, m)}, n == 0 && m == 0)
		}
	}
}

func TestWovenByHand(t *testing.T) {
	for _, c := range []struct {
		s    string
		deep int
		want string
	}{
		{"", 1, ""},
		{"", 12, ""},
		{"a", 1, "a"},
		{"abcdef", 1, "abcdef"},
		{"abcdef", 2, "adbecf"},
		{"abcdef", 3, "acebdf"},
		{"abcdef", 6, "abcdef"},
		{"abcdefgh", 4, "acegbdfh"},
		{"abcdefgh", 2, "aebfcgdh"},
		{"abcdefghijkl", 12, "abcdefghijkl"},
		{"\x00\xff\x80\x7f", 2, "\x00\x80\xff\x7f"},
		{"\xc3\xa9\xc3\xa8", 2, "\xc3\xc3\xa9\xa8"},
	} {
		got, ok := impl.Interleave(c.s, c.deep)
		wantBytes(t, "Interleave "+c.s, got, ok, c.want)
		got, ok = impl.Deinterleave(c.want, c.deep)
		wantBytes(t, "Deinterleave "+c.want, got, ok, c.s)
	}
}

func TestWovenAndBack(t *testing.T) {
	for deep := 1; deep <= mostDeep; deep++ {
		for _, many := range multiplesOf(deep) {
			for _, s := range wovenToTry(many) {
				across, ok := impl.Interleave(s, deep)
				wantBytes(t, "Interleave", across, ok, woven(s, deep))
				back, ok := impl.Deinterleave(across, deep)
				wantBytes(t, "Deinterleave of Interleave", back, ok, s)
				along, ok := impl.Deinterleave(s, deep)
				wantBytes(t, "Deinterleave", along, ok, unwoven(s, deep))
				back, ok = impl.Interleave(along, deep)
				wantBytes(t, "Interleave of Deinterleave", back, ok, s)
			}
		}
	}
}

func TestWovenAtTheLimits(t *testing.T) {
	for deep := -1; deep <= mostDeep+2; deep++ {
		for many := range mostWoven + 3*mostDeep {
			s := counted(many, 0)
			across, ok := impl.Interleave(s, deep)
			along, is := impl.Deinterleave(s, deep)
			if deep >= 1 && deep <= mostDeep && many <= mostWoven && many%deep == 0 {
				wantBytes(t, "Interleave", across, ok, woven(s, deep))
				wantBytes(t, "Deinterleave", along, is, unwoven(s, deep))
			} else {
				wantNoBytes(t, "Interleave", across, ok)
				wantNoBytes(t, "Deinterleave", along, is)
			}
		}
	}
}

func TestBurstsByHand(t *testing.T) {
	for _, c := range []struct {
		s          string
		from, long int
		want       string
	}{
		{"", 0, 0, ""},
		{"ab", 0, 0, "ab"},
		{"ab", 1, 0, "ab"},
		{"ab", 2, 0, "ab"},
		{"ab", 0, 1, "\x9eb"},
		{"ab", 1, 1, "a\x9d"},
		{"ab", 0, 2, "\x9e\x9d"},
		{"\x00\xff\x0f\xaa", 0, 4, "\xff\x00\xf0\x55"},
		{"\x00\xff\x0f\xaa", 1, 2, "\x00\x00\xf0\xaa"},
		{"\xc3\xa9\xc3\xa8", 1, 2, "\xc3\x56\x3c\xa8"},
	} {
		got, ok := impl.BurstOf(c.s, c.from, c.long)
		wantBytes(t, "BurstOf "+c.s, got, ok, c.want)
	}
}

func TestBurstsTwiceAtOnePlace(t *testing.T) {
	for _, many := range []int{0, 1, 2, 3, 12, 13, 60, 119, 120, 121, 300} {
		for _, s := range wovenToTry(many) {
			for from := range many + 1 {
				for _, long := range []int{0, 1, 2, 5, many - from - 1, many - from, many - from + 1} {
					got, ok := impl.BurstOf(s, from, long)
					if long < 0 || long > many-from {
						wantNoBytes(t, "BurstOf", got, ok)
						continue
					}
					wantBytes(t, "BurstOf", got, ok, burst(s, from, long))
					again, ok := impl.BurstOf(got, from, long)
					wantBytes(t, "BurstOf twice", again, ok, s)
				}
			}
		}
	}
}

func TestRowsHitByHand(t *testing.T) {
	wantRowsHit(t, 0, 1, 0, 0, nil)
	wantRowsHit(t, 0, 12, 0, 0, nil)
	wantRowsHit(t, 6, 2, 0, 0, nil)
	wantRowsHit(t, 6, 2, 6, 0, nil)
	wantRowsHit(t, 6, 2, 0, 1, []int{0})
	wantRowsHit(t, 6, 2, 1, 1, []int{1})
	wantRowsHit(t, 6, 2, 1, 2, []int{0, 1})
	wantRowsHit(t, 6, 2, 5, 1, []int{1})
	wantRowsHit(t, 6, 2, 0, 6, []int{0, 1})
	wantRowsHit(t, 6, 1, 2, 3, []int{0})
	wantRowsHit(t, 6, 6, 2, 3, []int{2, 3, 4})
	wantRowsHit(t, 12, 4, 3, 2, []int{0, 3})
	wantRowsHit(t, 12, 4, 3, 3, []int{0, 1, 3})
	wantRowsHit(t, 12, 4, 6, 4, []int{0, 1, 2, 3})
	wantRowsHit(t, 120, 12, 119, 1, []int{11})
	wantRowsHit(t, 120, 12, 106, 4, []int{0, 1, 10, 11})
	wantRowsHit(t, 120, 12, 0, 120, fromBelow(0, 12))
}

func TestNoRowIsHitTwice(t *testing.T) {
	for deep := 1; deep <= mostDeep; deep++ {
		for _, many := range multiplesOf(deep) {
			for from := range many + 1 {
				for long := 0; long <= min(deep+1, many-from); long++ {
					rows, ok := impl.RowsHit(many, deep, from, long)
					wantLetters(t, "RowsHit", rows, ok, rowsUnder(deep, from, long))
					if long <= deep && len(rows) != long {
						t.Errorf("RowsHit(%d, %d, %d, %d): %v", many, deep, from, long, rows)
					}
					// One that is longer has all of them, and one of them twice.
					if long > deep && len(rows) != deep {
						t.Errorf("RowsHit(%d, %d, %d, %d): %v", many, deep, from, long, rows)
					}
				}
			}
		}
	}
}

func TestRowsUnderLongBursts(t *testing.T) {
	for deep := 1; deep <= mostDeep; deep++ {
		all := multiplesOf(deep)
		for _, many := range []int{all[1], all[len(all)/2], all[len(all)-1]} {
			for from := range many + 1 {
				for long := 0; long <= many-from; long++ {
					wantRowsHit(t, many, deep, from, long, rowsUnder(deep, from, long))
				}
				wantNoRowsHit(t, many, deep, from, many-from+1)
			}
		}
	}
}

// unlikeIn tells for each row how many of its bytes are not as they were.
func unlikeIn(were, are string, deep int) []int {
	before, now := inRows(were, deep), inRows(are, deep)
	many := make([]int, deep)
	for row := range many {
		for at := range len(before[row]) {
			if before[row][at] != now[row][at] {
				many[row]++
			}
		}
	}
	return many
}

func TestBurstsInWhatWasWoven(t *testing.T) {
	for deep := 1; deep <= mostDeep; deep++ {
		all := multiplesOf(deep)
		for _, many := range []int{0, deep, 2 * deep, all[len(all)-1]} {
			s := shakenText(many, deep%2, shaker(many))
			across, _ := impl.Interleave(s, deep)
			for from := range many + 1 {
				for _, long := range []int{0, 1, deep - 1, deep, deep + 1, 2 * deep} {
					if long > many-from {
						continue
					}
					hit, _ := impl.BurstOf(across, from, long)
					back, _ := impl.Deinterleave(hit, deep)
					unlike := unlikeIn(s, back, deep)
					rows := slices.DeleteFunc(fromBelow(0, deep), func(row int) bool { return unlike[row] == 0 })
					wantRowsHit(t, many, deep, from, long, rows)
					if long <= deep && slices.Max(unlike) > 1 {
						t.Errorf("%d bytes in %d rows, a burst of %d at %d: %v", many, deep, long, from, unlike)
					}
					if long > deep && slices.Max(unlike) < 2 {
						t.Errorf("%d bytes in %d rows, a burst of %d at %d: no row twice: %v", many, deep, long, from, unlike)
					}
				}
			}
		}
	}
}

func TestSplitByHand(t *testing.T) {
	for _, c := range []struct {
		s    string
		many int
		want []string
	}{
		{"", 1, []string{""}},
		{"", 3, []string{"", "", ""}},
		{"", 7, []string{"", "", "", "", "", "", ""}},
		{"a", 1, []string{"a"}},
		{"a", 3, []string{"a", "\x00", "\x00"}},
		{"abc", 3, []string{"a", "b", "c"}},
		{"abcde", 1, []string{"abcde"}},
		{"abcde", 2, []string{"abc", "de\x00"}},
		{"abcde", 3, []string{"ab", "cd", "e\x00"}},
		{"abcde", 4, []string{"ab", "cd", "e\x00", "\x00\x00"}},
		{"abcdefgh", 7, []string{"ab", "cd", "ef", "gh", "\x00\x00", "\x00\x00", "\x00\x00"}},
		{"abc\x00", 2, []string{"ab", "c\x00"}},
		{"\xff\xff\xff", 2, []string{"\xff\xff", "\xff\x00"}},
		{"\xc3\xa9\xe2\x82\xac", 2, []string{"\xc3\xa9\xe2", "\x82\xac\x00"}},
	} {
		got, ok := impl.SplitPieces(c.s, c.many)
		wantPieces(t, "SplitPieces "+c.s, got, ok, c.want)
		if told := cutUp(c.s, c.many); !slices.Equal(told, c.want) {
			t.Errorf("%q, %d: told apart %q", c.s, c.many, told)
		}
		joined, ok := impl.JoinPieces(got, len(c.s))
		wantBytes(t, "JoinPieces", joined, ok, c.s)
	}
}

func TestSplitAndJoined(t *testing.T) {
	next := shaker(123)
	for many := 1; many < impl.MaxPieces; many++ {
		for long := range many*impl.MaxPiece + 1 {
			for kind := range 6 {
				s := shakenText(long, kind, next)
				pieces, ok := impl.SplitPieces(s, many)
				wantPieces(t, "SplitPieces", pieces, ok, cutUp(s, many))
				if len(pieces) != many || len(pieces[0])*many >= long+many {
					t.Errorf("SplitPieces(%q, %d): %q are not as short as can be", s, many, pieces)
				}
				joined, ok := impl.JoinPieces(pieces, long)
				wantBytes(t, "JoinPieces", joined, ok, s)
			}
		}
		for more := 1; more < 40; more++ {
			got, ok := impl.SplitPieces(strings.Repeat("z", many*impl.MaxPiece+more), many)
			wantNoPieces(t, "SplitPieces", got, ok)
		}
	}
}

func TestJoinedUpToAnyLength(t *testing.T) {
	for _, l := range piecesToTry(impl.MaxPieces, 1) {
		all := ""
		for _, piece := range l {
			all += piece
		}
		for long := range len(all) + 1 {
			got, ok := impl.JoinPieces(l, long)
			wantBytes(t, "JoinPieces", got, ok, all[:long])
		}
		got, ok := impl.JoinPieces(l, len(all)+1)
		wantNoBytes(t, "JoinPieces", got, ok)
	}
}

func TestSplitThenLostMendedAndJoined(t *testing.T) {
	next := shaker(124)
	for many := 1; many < impl.MaxPieces; many++ {
		for long := range many*impl.MaxPiece + 1 {
			s := shakenText(long, long%6, next)
			pieces, _ := impl.SplitPieces(s, many)
			all, ok := impl.WithParity(pieces)
			if !ok || len(all) != many+1 {
				t.Fatalf("WithParity(%q): %q, %t", pieces, all, ok)
			}
			for k := range all {
				left := withPiece(all, k, strings.Repeat("?", len(all[k])))
				mended, ok := impl.MendPiece(left, k)
				wantBytes(t, "MendPiece", mended, ok, all[k])
				back := withPiece(left, k, mended)
				wantWhole(t, back, true)
				joined, ok := impl.JoinPieces(back[:many], long)
				wantBytes(t, "JoinPieces", joined, ok, s)
			}
		}
	}
}

func wrongPieces() [][]string {
	all := [][]string{
		nil, {},
		make([]string, impl.MaxPieces+1), make([]string, impl.MaxPieces+2), make([]string, 100000),
		slices.Repeat([]string{"a"}, impl.MaxPieces+1), slices.Repeat([]string{counted(16, 0)}, impl.MaxPieces+1),
		{"a", ""}, {"", "a"}, {"ab", "a"}, {"a", "ab"}, {"ab", "ab", "a"}, {"ab", "a", "ab"}, {"a", "ab", "ab"}, {"ab", "ab", "abc"},
		{"ab", "abc", "ab"}, {"", "", "\x00"}, {"\x00", "", ""}, {"\xc3\xa9", "a"}, {"\xc3\xa9", "abc"},
		{counted(16, 0), counted(15, 0)}, {counted(15, 0), counted(16, 0)},
		{counted(17, 0), counted(16, 0)}, {counted(16, 0), counted(17, 0)}, {counted(16, 0), counted(16, 0), counted(17, 0)},
		{strings.Repeat("a", 100000)}, {"a", strings.Repeat("a", 100000)},
	}
	for many := 1; many <= impl.MaxPieces; many++ {
		all = append(all, slices.Repeat([]string{counted(17, 0)}, many), slices.Repeat([]string{counted(32, 0)}, many))
	}
	for k := range impl.MaxPieces {
		all = append(all, withPiece(slices.Repeat([]string{"abcd"}, impl.MaxPieces), k, "abc"), withPiece(slices.Repeat([]string{"abcd"}, impl.MaxPieces), k, ""))
	}
	return all
}

// wrongInts are below 0, or more than anything here may be.
var wrongInts = []int{-1, -2, -8, -12, -16, -120, math.MinInt, math.MinInt + 1, math.MinInt / 12 * 12, 121, 1000, 1 << 32, math.MaxInt / 12 * 12, math.MaxInt - 1, math.MaxInt}

func TestWrongPiecesAreRefused(t *testing.T) {
	for _, l := range wrongPieces() {
		got, ok := impl.ParityOf(l)
		wantNoBytes(t, "ParityOf", got, ok)
		all, ok := impl.WithParity(l)
		wantNoPieces(t, "WithParity", all, ok)
		if is, ok := impl.IsWhole(l); is || ok {
			t.Errorf("IsWhole(%q): %t, %t", l, is, ok)
		}
		for _, k := range append([]int{0, 1, 7, 8, len(l) - 1, len(l)}, wrongInts...) {
			got, ok := impl.MendPiece(l, k)
			wantNoBytes(t, "MendPiece", got, ok)
		}
		for _, long := range append([]int{0, 1, 2, 16}, wrongInts...) {
			got, ok := impl.JoinPieces(l, long)
			wantNoBytes(t, "JoinPieces", got, ok)
		}
	}
}

func TestWrongPlacesOfPiecesAreRefused(t *testing.T) {
	for _, l := range piecesToTry(impl.MaxPieces, 1) {
		for _, k := range append([]int{len(l), len(l) + 1, impl.MaxPieces, impl.MaxPieces + 1}, wrongInts...) {
			got, ok := impl.MendPiece(l, k)
			wantNoBytes(t, "MendPiece", got, ok)
		}
		whole := len(l) * len(l[0])
		for _, long := range []int{-1, -2, math.MinInt, math.MinInt + 1, whole + 1, whole + 2, 129, 1000, math.MaxInt - 1, math.MaxInt} {
			got, ok := impl.JoinPieces(l, long)
			wantNoBytes(t, "JoinPieces", got, ok)
		}
	}
}

func TestAPieceThatIsGoneIsNoPiece(t *testing.T) {
	// Pieces are of one length, the lost one's place too.
	all, _ := impl.WithParity([]string{"abc", "def", "ghi"})
	for k := range all {
		got, ok := impl.MendPiece(withPiece(all, k, ""), k)
		wantNoBytes(t, "MendPiece", got, ok)
		got, ok = impl.MendPiece(withPiece(all, k, "abcd"), k)
		wantNoBytes(t, "MendPiece", got, ok)
	}
}

func TestWrongRowsAreRefused(t *testing.T) {
	for _, deep := range append([]int{0, 13, 14, 24, 60, 120}, wrongInts...) {
		for _, many := range []int{0, 1, 12, 13, 24, 26, 60, 119, 120, 121, 240} {
			got, ok := impl.Interleave(counted(many, 0), deep)
			wantNoBytes(t, "Interleave", got, ok)
			got, ok = impl.Deinterleave(counted(many, 0), deep)
			wantNoBytes(t, "Deinterleave", got, ok)
			wantNoRowsHit(t, many, deep, 0, 0)
			wantNoRowsHit(t, many, deep, 0, 1)
		}
	}
	for deep := 1; deep <= mostDeep; deep++ {
		for _, s := range []string{counted(121, 0), counted(132, 0), strings.Repeat("a", 27720), strings.Repeat("a", 100000)} {
			got, ok := impl.Interleave(s, deep)
			wantNoBytes(t, "Interleave", got, ok)
			got, ok = impl.Deinterleave(s, deep)
			wantNoBytes(t, "Deinterleave", got, ok)
			wantNoRowsHit(t, len(s), deep, 0, 0)
			wantNoRowsHit(t, len(s), deep, 0, 1)
		}
		for _, many := range append([]int{-deep, -12 * deep, 132, 27720}, wrongInts...) {
			wantNoRowsHit(t, many, deep, 0, 0)
			wantNoRowsHit(t, many, deep, 0, 1)
			wantNoRowsHit(t, many, deep, many, 0)
			for _, from := range wrongInts {
				wantNoRowsHit(t, many, deep, from, 0)
				wantNoRowsHit(t, many, deep, from, 1)
				wantNoRowsHit(t, many, deep, 0, from)
			}
		}
		for many := range mostWoven + 1 {
			if many%deep != 0 {
				wantNoRowsHit(t, many, deep, 0, 0)
				wantNoRowsHit(t, many, deep, 0, many)
			}
		}
	}
}

// wrongBursts go beyond so many bytes, or begin ahead of them.
func wrongBursts(many int) [][2]int {
	all := [][2]int{
		{many, 1}, {many + 1, 0}, {many + 1, 1}, {many + 1, -1}, {0, many + 1}, {1, many}, {many, many + 1},
		{math.MaxInt, 1}, {1, math.MaxInt}, {math.MaxInt, math.MaxInt}, {math.MaxInt, 0}, {0, math.MaxInt}, {math.MaxInt, math.MinInt},
		{math.MinInt, 0}, {math.MinInt, math.MaxInt}, {math.MinInt, math.MinInt}, {0, math.MinInt}, {many, math.MinInt},
		{-1, 0}, {-1, 1}, {-1, 2}, {-many, many}, {-many - 1, many}, {0, -1}, {many, -1}, {many, -many - 1}, {many + 2, -2},
		{math.MaxInt - many, many + 1}, {math.MaxInt - many + 1, many}, {math.MinInt + many, math.MaxInt}, {many, math.MaxInt - many + 1},
	}
	return slices.DeleteFunc(all, func(b [2]int) bool { return b[0] >= 0 && b[1] >= 0 && b[0] <= many && b[1] <= many-b[0] })
}

func TestWrongBurstsAreRefused(t *testing.T) {
	for _, many := range []int{0, 1, 2, 12, 60, 119, 120, 121, 500} {
		for _, b := range wrongBursts(many) {
			got, ok := impl.BurstOf(counted(many, 0), b[0], b[1])
			wantNoBytes(t, "BurstOf", got, ok)
			for deep := 1; deep <= mostDeep; deep++ {
				wantNoRowsHit(t, many, deep, b[0], b[1])
			}
		}
	}
}

func TestWrongSplitsAreRefused(t *testing.T) {
	for _, many := range append([]int{0, impl.MaxPieces, impl.MaxPieces + 1, 16, 128}, wrongInts...) {
		for _, s := range []string{"", "a", "ab", counted(16, 0), counted(112, 0), counted(128, 0), strings.Repeat("a", 100000)} {
			got, ok := impl.SplitPieces(s, many)
			wantNoPieces(t, "SplitPieces", got, ok)
		}
	}
	for many := 1; many < impl.MaxPieces; many++ {
		for _, s := range []string{counted(many*16+1, 0), counted(113, 0), strings.Repeat("a", 100000)} {
			got, ok := impl.SplitPieces(s, many)
			wantNoPieces(t, "SplitPieces", got, ok)
		}
	}
}

// wantOwnTexts leaves out texts of one byte, which the language may keep once for all.
func wantOwnTexts(t *testing.T, what string, answer []string, given ...string) {
	t.Helper()
	for k, a := range answer {
		if len(a) < 2 {
			continue
		}
		for _, g := range given {
			if sharesText(a, g) {
				t.Errorf("%s: %q is shared with what was given", what, a)
			}
		}
		for _, other := range answer[:k] {
			if sharesText(a, other) {
				t.Errorf("%s: %q is shared by two of the answer", what, a)
			}
		}
	}
}

func TestPiecesAreNotWrittenInto(t *testing.T) {
	for _, were := range append(piecesToTry(impl.MaxPieces, 1), wrongPieces()...) {
		given := withHidden(were, hiddenPiece)
		parity, ok := impl.ParityOf(given)
		plain, same := impl.ParityOf(were)
		if parity != plain || ok != same {
			t.Errorf("ParityOf(%q): %q, %t, and %q, %t", were, parity, ok, plain, same)
		}
		whole, ok := impl.IsWhole(given)
		plainWhole, same := impl.IsWhole(were)
		if whole != plainWhole || ok != same {
			t.Errorf("IsWhole(%q): %t, %t, and %t, %t", were, whole, ok, plainWhole, same)
		}
		wantUnchanged(t, "ParityOf, IsWhole", given, were, hiddenPiece)

		all, ok := impl.WithParity(given)
		plainAll, same := impl.WithParity(were)
		if !slices.Equal(all, plainAll) || ok != same {
			t.Errorf("WithParity(%q): %q, %t, and %q, %t", were, all, ok, plainAll, same)
		}
		wantOwnTexts(t, "WithParity", all, given...)
		wrecked(t, "WithParity", all, hiddenPiece)
		wantUnchanged(t, "WithParity", given, were, hiddenPiece)
		wantPiecesReadAlone(t, given, were)
	}
}

func wantPiecesReadAlone(t *testing.T, given, were []string) {
	t.Helper()
	for _, k := range []int{-1, 0, 1, len(were) - 1, len(were), len(were) + 1} {
		got, ok := impl.MendPiece(given, k)
		plain, same := impl.MendPiece(were, k)
		if got != plain || ok != same {
			t.Errorf("MendPiece(%q, %d): %q, %t, and %q, %t", were, k, got, ok, plain, same)
		}
		wantOwnTexts(t, "MendPiece", []string{got}, given...)
	}
	whole := len(strings.Join(were[:min(len(were), 9)], ""))
	for _, long := range []int{-1, 0, 1, 2, whole - 1, whole, whole + 1} {
		got, ok := impl.JoinPieces(given, long)
		plain, same := impl.JoinPieces(were, long)
		if got != plain || ok != same {
			t.Errorf("JoinPieces(%q, %d): %q, %t, and %q, %t", were, long, got, ok, plain, same)
		}
		wantOwnTexts(t, "JoinPieces", []string{got}, given...)
	}
	wantUnchanged(t, "MendPiece, JoinPieces", given, were, hiddenPiece)
}

func TestPiecesBehindAListAreNotRead(t *testing.T) {
	// Good ones lie behind, and would be taken up if they were read.
	l := []string{"ab", "ba", "cd", "zz"}
	got, ok := impl.ParityOf(l[:2])
	wantBytes(t, "ParityOf", got, ok, "\x03\x03")
	all, ok := impl.WithParity(l[:2])
	wantPieces(t, "WithParity", all, ok, []string{"ab", "ba", "\x03\x03"})
	got, ok = impl.MendPiece(l[:2], 1)
	wantBytes(t, "MendPiece", got, ok, "ab")
	got, ok = impl.MendPiece(l[:2], 0)
	wantBytes(t, "MendPiece", got, ok, "ba")
	got, ok = impl.MendPiece(l[:2], 2)
	wantNoBytes(t, "MendPiece", got, ok)
	got, ok = impl.JoinPieces(l[:2], 5)
	wantNoBytes(t, "JoinPieces", got, ok)
	got, ok = impl.ParityOf(l[:0])
	wantNoBytes(t, "ParityOf", got, ok)
	wantWhole(t, []string{"ab", "ab", "cd"}[:2], true)
	if !slices.Equal(l, []string{"ab", "ba", "cd", "zz"}) {
		t.Error("written behind a list's length:", l)
	}
}

func TestTextsOfAnswersAreTheirOwn(t *testing.T) {
	for _, many := range []int{2, 12, 60, 120} {
		s := strings.Clone(counted(many, 7))
		for deep := 1; deep <= mostDeep; deep++ {
			got, _ := impl.Interleave(s, deep)
			wantOwnTexts(t, "Interleave", []string{got}, s)
			got, _ = impl.Deinterleave(s, deep)
			wantOwnTexts(t, "Deinterleave", []string{got}, s)
		}
		for long := range many + 1 {
			got, _ := impl.BurstOf(s, 0, long)
			wantOwnTexts(t, "BurstOf", []string{got}, s)
		}
		for split := 1; split < impl.MaxPieces; split++ {
			got, ok := impl.SplitPieces(s, split)
			wantOwnTexts(t, "SplitPieces", got, s)
			if again, same := impl.SplitPieces(s, split); !slices.Equal(got, again) || ok != same {
				t.Errorf("SplitPieces(%q, %d): %q, and then %q", s, split, got, again)
			}
			wrecked(t, "SplitPieces", got, hiddenPiece)
		}
		if s != counted(many, 7) {
			t.Errorf("a text of %d bytes was written into", many)
		}
	}
	alike := slices.Repeat([]string{strings.Clone("alike")}, 3)
	got, _ := impl.WithParity(alike)
	wantOwnTexts(t, "WithParity", got, alike...)
}

func TestRowsHitAreToldInOrder(t *testing.T) {
	// Many times over, as a map is gone through in another order each time.
	for range 200 {
		wantRowsHit(t, 120, 12, 7, 10, []int{0, 1, 2, 3, 4, 7, 8, 9, 10, 11})
		wantRowsHit(t, 110, 11, 10, 11, fromBelow(0, 11))
		rows, _ := impl.RowsHit(120, 12, 0, 12)
		wrecked(t, "RowsHit", rows, hiddenNumber)
	}
}
