package impl

import (
	"slices"
	"strconv"
	"strings"
)

const MaxNum = 281474976710655

const (
	groupBits  = 7
	groupMore  = 128
	groupsMost = 7
	fixBytes   = 6
	leastZig   = -(MaxNum / 2) - 1
	mostZig    = MaxNum / 2
	crcMask    = 3988292384
)

func isNum(n int) bool { return n >= 0 && n <= MaxNum }

func PutVar(b []byte, n int) ([]byte, bool) {
	if !isNum(n) {
		return nil, false
	}
	// Appending to b itself could write into memory that the caller owns.
	out := slices.Clone(b)
	for n >= groupMore {
		out = append(out, byte(n)|groupMore)
		n >>= groupBits
	}
	return append(out, byte(n)), true
}

func GetVar(b []byte, at int) (int, int, bool) {
	if at < 0 || at >= len(b) {
		return 0, 0, false
	}
	n := 0
	for i := range min(len(b)-at, groupsMost) {
		group := int(b[at+i])
		n |= (group % groupMore) << (groupBits * i)
		if group >= groupMore {
			continue
		}
		// A zero group at the end means that a shorter encoding exists.
		if i > 0 && group == 0 || !isNum(n) {
			return 0, 0, false
		}
		return n, at + i + 1, true
	}
	return 0, 0, false
}

func PutZig(b []byte, n int) ([]byte, bool) {
	// The range is checked first because doubling may overflow.
	if n < leastZig || n > mostZig {
		return nil, false
	}
	if n < 0 {
		return PutVar(b, -2*n-1)
	}
	return PutVar(b, 2*n)
}

func GetZig(b []byte, at int) (int, int, bool) {
	n, next, ok := GetVar(b, at)
	if !ok {
		return 0, 0, false
	}
	if n%2 == 1 {
		return -(n / 2) - 1, next, true
	}
	return n / 2, next, true
}

func PutFix(b []byte, n int) ([]byte, bool) {
	if !isNum(n) {
		return nil, false
	}
	out := slices.Clone(b)
	for i := range fixBytes {
		out = append(out, byte(n>>(8*(fixBytes-1-i))))
	}
	return out, true
}

func GetFix(b []byte, at int) (int, bool) {
	// at + fixBytes could overflow, so the length is reduced instead.
	if at < 0 || at > len(b)-fixBytes {
		return 0, false
	}
	n := 0
	for i := range fixBytes {
		n = n<<8 | int(b[at+i])
	}
	return n, true
}

func Crc(b []byte) int {
	register := ^uint32(0)
	feed := func(x byte) {
		register ^= uint32(x)
		for range 8 {
			out := register & 1
			register >>= 1
			if out == 1 {
				register ^= crcMask
			}
		}
	}
	for _, x := range b {
		feed(x)
	}
	return int(^register)
}

func NumText(n int) string {
	if !isNum(n) {
		return ""
	}
	return strconv.Itoa(n)
}

func TextNum(s string) (int, bool) {
	n, err := strconv.Atoi(s)
	// Atoi also accepts signs and leading zeros, which NumText never writes.
	if err != nil || NumText(n) != s {
		return 0, false
	}
	return n, true
}

func Parts(s string) []string { return strings.Split(s, " ") }
