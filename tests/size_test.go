package tests

import (
	"math"
	"slices"
	"strings"
	"testing"
	"unsafe"

	"loop.example/g00527/impl"
)

const maxListed = 60
const maxTextBytes = 200

// written holds numbers at the edges of each size and between them, with the bytes worked out by hand.
var written = []struct {
	n    int
	text string
}{
	{0, "\x00"},
	{1, "\x01"},
	{37, "\x25"},
	{63, "\x3f"},
	{64, "\x40\x40"},
	{255, "\x40\xff"},
	{256, "\x41\x00"},
	{15293, "\x7b\xbd"},
	{16383, "\x7f\xff"},
	{16384, "\x80\x00\x40\x00"},
	{65536, "\x80\x01\x00\x00"},
	{494878333, "\x9d\x7f\x3e\x7d"},
	{1073741823, "\xbf\xff\xff\xff"},
	{1073741824, "\xc0\x00\x00\x00\x40\x00\x00\x00"},
	{4294967296, "\xc0\x00\x00\x01\x00\x00\x00\x00"},
	{81985529216486895, "\xc1\x23\x45\x67\x89\xab\xcd\xef"},
	{impl.MaxNumber, "\xcf\xff\xff\xff\xff\xff\xff\xff"},
}

var wrongNumbers = []int{-1, -64, math.MinInt, impl.MaxNumber + 1, math.MaxInt}

var sizes = []int{1, 2, 4, 8}

func sharesText(a, b string) bool {
	if len(a) == 0 || len(b) == 0 {
		return false
	}
	x := uintptr(unsafe.Pointer(unsafe.StringData(a)))
	y := uintptr(unsafe.Pointer(unsafe.StringData(b)))
	return x < y+uintptr(len(b)) && y < x+uintptr(len(a))
}

func wantNoNumber(t *testing.T, s string, at int) {
	t.Helper()
	if n, behind, ok := impl.GetNumber(s, at); n != 0 || behind != 0 || ok {
		t.Errorf("GetNumber(%x, %d): %d, %d, %t", s, at, n, behind, ok)
	}
}

func wantNoList(t *testing.T, s string) {
	t.Helper()
	if l, ok := impl.GetList(s); len(l) != 0 || ok {
		t.Errorf("GetList(%x): %v, %t", s, l, ok)
	}
}

func wantNoText(t *testing.T, s string, at int) {
	t.Helper()
	if x, behind, ok := impl.GetText(s, at); x != "" || behind != 0 || ok {
		t.Errorf("GetText(%x, %d): %x, %d, %t", s, at, x, behind, ok)
	}
}

func TestLimitsOfNumbers(t *testing.T) {
	if impl.MaxNumber != 1<<60-1 || impl.MaxText != 600 {
		t.Error(impl.MaxNumber, impl.MaxText)
	}
}

func TestNumbersAreWritten(t *testing.T) {
	for _, w := range written {
		if size, ok := impl.SizeOf(w.n); size != len(w.text) || !ok {
			t.Errorf("SizeOf(%d): %d, %t", w.n, size, ok)
		}
		if s, ok := impl.PutNumber(w.n); s != w.text || !ok {
			t.Errorf("PutNumber(%d): %x, %t", w.n, s, ok)
		}
	}
}

func TestNumbersComeBackAtAnyPlace(t *testing.T) {
	for _, w := range written {
		for _, ahead := range []string{"", "\x00", "\xff", "\x40\x05", strings.Repeat("\xc0", 700)} {
			for _, tail := range []string{"", "\x00", "\xff\xff", strings.Repeat("\x40", 700)} {
				behind := len(ahead) + len(w.text)
				n, end, ok := impl.GetNumber(ahead+w.text+tail, len(ahead))
				if n != w.n || end != behind || !ok {
					t.Errorf("GetNumber of %d behind %d bytes: %d, %d, %t", w.n, len(ahead), n, end, ok)
				}
			}
		}
	}
}

func TestManyNumbersComeBack(t *testing.T) {
	wantBack := func(n int) {
		s, put := impl.PutNumber(n)
		if got, end, ok := impl.GetNumber(s, 0); !put || got != n || end != len(s) || !ok {
			t.Fatalf("%d: %x, %t: %d, %d, %t", n, s, put, got, end, ok)
		}
	}
	for n := range 70000 {
		wantBack(n)
		wantBack(1073741824 - 35000 + n)
		wantBack(impl.MaxNumber - n)
	}
	for shift := range 60 {
		wantBack(1 << shift)
		wantBack(1<<shift - 1)
	}
}

func TestWiderFormsAreWrittenButNotRead(t *testing.T) {
	for _, w := range written {
		for class, size := range sizes {
			s, ok := impl.PutWide(w.n, size)
			if size < len(w.text) {
				if s != "" || ok {
					t.Errorf("PutWide(%d, %d): %x, %t", w.n, size, s, ok)
				}
				continue
			}
			want := make([]byte, size)
			for k := range size {
				want[size-1-k] = byte(w.n >> (8 * k))
			}
			want[0] += byte(64 * class)
			if s != string(want) || !ok {
				t.Errorf("PutWide(%d, %d): %x, %t", w.n, size, s, ok)
			}
			if size > len(w.text) {
				wantNoNumber(t, s, 0)
				wantNoNumber(t, "\x07"+s+"\x07", 1)
				wantNoList(t, s)
				wantNoList(t, w.text+s)
			}
		}
	}
}

func TestEveryTextOfTwoBytes(t *testing.T) {
	for word := range 65536 {
		s := string([]byte{byte(word >> 8), byte(word)})
		switch {
		case word < 1<<14:
			if n, end, ok := impl.GetNumber(s, 0); n != word>>8 || end != 1 || !ok {
				t.Fatalf("%x: %d, %d, %t", s, n, end, ok)
			}
		case word >= 1<<14+64 && word < 1<<15:
			if n, end, ok := impl.GetNumber(s, 0); n != word-1<<14 || end != 2 || !ok {
				t.Fatalf("%x: %d, %d, %t", s, n, end, ok)
			}
		default:
			wantNoNumber(t, s, 0)
		}
	}
}

func TestNumbersBeyondMaxNumberAreNotRead(t *testing.T) {
	wantNoNumber(t, "\xd0\x00\x00\x00\x00\x00\x00\x00", 0)
	wantNoNumber(t, "\xe0\x00\x00\x00\x00\x00\x00\x00", 0)
	wantNoNumber(t, "\xff\xff\xff\xff\xff\xff\xff\xff", 0)
	wantNoList(t, "\x01\xd0\x00\x00\x00\x00\x00\x00\x00")
	wantNoText(t, "\xd0\x00\x00\x00\x00\x00\x00\x00abc", 0)
}

func TestWrongNumbersAndSizes(t *testing.T) {
	for _, n := range wrongNumbers {
		if size, ok := impl.SizeOf(n); size != 0 || ok {
			t.Errorf("SizeOf(%d): %d, %t", n, size, ok)
		}
		if s, ok := impl.PutNumber(n); s != "" || ok {
			t.Errorf("PutNumber(%d): %x, %t", n, s, ok)
		}
		for _, size := range sizes {
			if s, ok := impl.PutWide(n, size); s != "" || ok {
				t.Errorf("PutWide(%d, %d): %x, %t", n, size, s, ok)
			}
		}
		for _, l := range [][]int{{n}, {n, 1}, {1, 64, n}} {
			if s, ok := impl.PutList(l); s != "" || ok {
				t.Errorf("PutList(%v): %x, %t", l, s, ok)
			}
		}
	}
	for _, size := range []int{math.MinInt, -8, -1, 0, 3, 5, 6, 7, 9, 16, 64, math.MaxInt} {
		for _, n := range []int{0, 5, 64, impl.MaxNumber, -1} {
			if s, ok := impl.PutWide(n, size); s != "" || ok {
				t.Errorf("PutWide(%d, %d): %x, %t", n, size, s, ok)
			}
		}
	}
}

func TestWrongPlacesAndTextsCutShort(t *testing.T) {
	for _, s := range []string{"", "\x05", "\x02ab", "\x40\x40\x01"} {
		for _, at := range []int{math.MinInt, -9, -1, len(s), len(s) + 1, len(s) + 100, math.MaxInt - 1, math.MaxInt} {
			wantNoNumber(t, s, at)
			wantNoText(t, s, at)
		}
	}
	for _, w := range written {
		for k := range len(w.text) {
			wantNoNumber(t, w.text[:k], 0)
			wantNoNumber(t, "\x00"+w.text[:k], 1)
			wantNoText(t, w.text[:k], 0)
			if k > 0 {
				wantNoList(t, "\x00"+w.text[:k])
			}
		}
	}
	// What is cut off stands behind in the same memory, and must not be read.
	long := "\x80\x00\x40\x00"
	wantNoNumber(t, long[:3], 0)
}

func TestListsComeBack(t *testing.T) {
	var mixed []int
	var text string
	for _, w := range written {
		mixed = append(mixed, w.n)
		text += w.text
	}
	if s, ok := impl.PutList(mixed); s != text || !ok {
		t.Errorf("%x, %t", s, ok)
	}
	most := slices.Repeat([]int{impl.MaxNumber}, maxListed)
	for _, l := range [][]int{nil, {}, {0}, {63, 64}, {5, 5, 5}, mixed, slices.Repeat([]int{0}, maxListed), most} {
		s, put := impl.PutList(l)
		got, ok := impl.GetList(s)
		if !put || !ok || !slices.Equal(got, l) {
			t.Errorf("%v: %x, %t: %v, %t", l, s, put, got, ok)
		}
	}
	if s, _ := impl.PutList(most); len(s) != 8*maxListed {
		t.Error(len(s))
	}
}

func TestListsTooLong(t *testing.T) {
	for _, n := range []int{0, 64, impl.MaxNumber} {
		for _, many := range []int{maxListed + 1, maxListed + 2, 1000} {
			if s, ok := impl.PutList(slices.Repeat([]int{n}, many)); s != "" || ok {
				t.Errorf("%d of %d: %x, %t", many, n, s, ok)
			}
			one, _ := impl.PutNumber(n)
			wantNoList(t, strings.Repeat(one, many))
		}
	}
	for _, long := range []int{impl.MaxText, impl.MaxText + 1} {
		wantNoList(t, strings.Repeat("\x05", long))
	}
	wantNoList(t, strings.Repeat("\x05", maxListed)+"\x40")
}

func TestTextsComeBack(t *testing.T) {
	for _, c := range []struct{ text, put string }{
		{"", "\x00"},
		{"ab", "\x02ab"},
		{"\x00\xff\n", "\x03\x00\xff\n"},
		{strings.Repeat("x", 63), "\x3f" + strings.Repeat("x", 63)},
		{strings.Repeat("x", 64), "\x40\x40" + strings.Repeat("x", 64)},
		{strings.Repeat("\xc3", maxTextBytes), "\x40\xc8" + strings.Repeat("\xc3", maxTextBytes)},
	} {
		if s, ok := impl.PutText(c.text); s != c.put || !ok {
			t.Errorf("PutText(%x): %x, %t", c.text, s, ok)
		}
		for _, ahead := range []string{"", "\x00", "\xff\x02", strings.Repeat("y", impl.MaxText)} {
			for _, tail := range []string{"", "c", strings.Repeat("\x02", impl.MaxText)} {
				got, end, ok := impl.GetText(ahead+c.put+tail, len(ahead))
				if got != c.text || end != len(ahead)+len(c.put) || !ok {
					t.Errorf("GetText of %x behind %d bytes: %x, %d, %t", c.put, len(ahead), got, end, ok)
				}
			}
		}
	}
}

func TestTextsComeBackWithinMaxText(t *testing.T) {
	one, _ := impl.PutText(strings.Repeat("z", 198))
	whole := strings.Repeat(one, 3)
	if len(whole) != impl.MaxText {
		t.Fatal(len(whole))
	}
	for at := 0; at < len(whole); {
		got, end, ok := impl.GetText(whole, at)
		if len(got) != 198 || end != at+200 || !ok {
			t.Fatal(at, len(got), end, ok)
		}
		at = end
	}
}

func TestWrongTexts(t *testing.T) {
	for _, long := range []int{maxTextBytes + 1, impl.MaxText, 20000} {
		body := strings.Repeat("x", long)
		if s, ok := impl.PutText(body); s != "" || ok {
			t.Errorf("PutText of %d bytes: %d bytes, %t", long, len(s), ok)
		}
		head, _ := impl.PutNumber(long)
		wantNoText(t, head+body, 0)
	}
	wantNoText(t, "\x40\x02ab", 0)
	wantNoText(t, "\x80\x00\x00\x02ab", 0)
	wantNoText(t, "\x00\x02a", 1)
	whole, _ := impl.PutText(strings.Repeat("x", maxTextBytes))
	for k := range len(whole) {
		wantNoText(t, whole[:k], 0)
	}
	most, _ := impl.PutNumber(impl.MaxNumber)
	wantNoText(t, most+"abc", 0)
}

func TestArgumentsOfNumbersStay(t *testing.T) {
	memory := []int{1, 64, 16384, -7, 9}
	handed := memory[:3]
	s, ok := impl.PutList(handed)
	if s != "\x01\x40\x40\x80\x00\x40\x00" || !ok {
		t.Errorf("%x, %t", s, ok)
	}
	impl.PutList(memory)
	if !slices.Equal(memory, []int{1, 64, 16384, -7, 9}) || len(handed) != 3 {
		t.Error(memory, handed)
	}
}

func TestAnswersOfNumbersAreNewMemory(t *testing.T) {
	a, _ := impl.GetList("\x01\x02\x03")
	b, _ := impl.GetList("\x01\x02\x03")
	a[0] = 50
	a = append(a, 51)
	if !slices.Equal(b, []int{1, 2, 3}) || a[0] != 50 {
		t.Error(a, b)
	}
	for _, long := range []int{1, 2, 64, maxTextBytes} {
		body := strings.Repeat("q", long)
		s, _ := impl.PutText(body)
		if sharesText(s, body) {
			t.Errorf("PutText of %d bytes shares memory", long)
		}
		if got, _, ok := impl.GetText(s, 0); !ok || sharesText(got, s) {
			t.Errorf("GetText of %d bytes shares memory", long)
		}
	}
}
