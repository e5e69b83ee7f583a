package impl

import "strings"

const MaxNumber = 1152921504606846975
const MaxText = 600

const maxListed = 60
const maxTextBytes = 200

// The classes are counted as the first two bits of a written number tell them.
const (
	inOne = iota
	inTwo
	inFour
	inEight
	classCount
)

const classShift = 6
const firstByteMask = 1<<classShift - 1

type sizeRow struct {
	size  int
	below int
}

// The last row ends at MaxNumber, not at what its 62 bits could hold, so that no number beyond is written or read.
var sizeRows = [classCount]sizeRow{
	inOne:   {size: 1, below: 64},
	inTwo:   {size: 2, below: 16384},
	inFour:  {size: 4, below: 1073741824},
	inEight: {size: 8, below: MaxNumber + 1},
}

func SizeOf(n int) (int, bool) {
	if n < 0 {
		return 0, false
	}
	for class := range classCount {
		if n < sizeRows[class].below {
			return sizeRows[class].size, true
		}
	}
	return 0, false
}

func PutNumber(n int) (string, bool) {
	size, ok := SizeOf(n)
	if !ok {
		return "", false
	}
	return PutWide(n, size)
}

func GetNumber(s string, at int) (int, int, bool) {
	if at < 0 || at >= len(s) {
		return 0, 0, false
	}
	size := sizeRows[s[at]>>classShift].size
	// What is left is compared, not at+size, which could wrap round.
	if size > len(s)-at {
		return 0, 0, false
	}
	n := int(s[at] & firstByteMask)
	for k := 1; k < size; k++ {
		n = n<<8 | int(s[at+k])
	}
	// Only the fewest bytes are read, so that each number has one text.
	fewest, ok := SizeOf(n)
	if !ok || fewest != size {
		return 0, 0, false
	}
	return n, at + size, true
}

func PutWide(n int, size int) (string, bool) {
	fewest, ok := SizeOf(n)
	class, known := classOfSize(size)
	if !ok || !known || size < fewest {
		return "", false
	}
	b := make([]byte, size)
	rest := n
	for k := size - 1; k >= 0; k-- {
		b[k] = byte(rest & 255)
		rest >>= 8
	}
	b[0] |= byte(class << classShift)
	return string(b), true
}

func classOfSize(size int) (int, bool) {
	for class := range classCount {
		if sizeRows[class].size == size {
			return class, true
		}
	}
	return 0, false
}

func PutList(l []int) (string, bool) {
	if len(l) > maxListed {
		return "", false
	}
	var b strings.Builder
	for _, n := range l {
		s, ok := PutNumber(n)
		if !ok {
			return "", false
		}
		b.WriteString(s)
	}
	return b.String(), true
}

func GetList(s string) ([]int, bool) {
	if len(s) > MaxText {
		return nil, false
	}
	var l []int
	for at := 0; at < len(s); {
		n, behind, ok := GetNumber(s, at)
		if !ok || len(l) == maxListed {
			return nil, false
		}
		l = append(l, n)
		at = behind
	}
	return l, true
}

func PutText(s string) (string, bool) {
	if len(s) > maxTextBytes {
		return "", false
	}
	long, ok := PutNumber(len(s))
	return long + s, ok
}

func GetText(s string, at int) (string, int, bool) {
	long, from, ok := GetNumber(s, at)
	if !ok || long > maxTextBytes || long > len(s)-from {
		return "", 0, false
	}
	// A piece of s would keep all of s in memory and share it.
	return strings.Clone(s[from : from+long]), from + long, true
}
