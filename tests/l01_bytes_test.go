package tests

import (
	"bytes"
	"encoding/binary"
	"hash/crc32"
	"math"
	"math/big"
	"math/rand"
	"slices"
	"strconv"
	"strings"
	"testing"

	"loop.example/g00671/impl"
)

const (
	leastZig = -(impl.MaxNum / 2) - 1
	mostZig  = impl.MaxNum / 2
)

// notNumbers are ints outside the range of numbers, among them those whose low 48 bits look harmless.
var notNumbers = []int{-1, -2, -128, math.MinInt, math.MinInt + 1, impl.MaxNum + 1, impl.MaxNum + 2, 1 << 49, 1 << 56, math.MaxInt - 1, math.MaxInt}

// numbers lists every power of two with its neighbours, as far as they are numbers, and some others.
func numbers() []int {
	l := []int{0, 9, 10, 99, 100, 300, 1000000, impl.MaxNum / 2, impl.MaxNum - 1, impl.MaxNum}
	for k := range 48 {
		l = append(l, 1<<k-1, 1<<k, 1<<k+1)
	}
	r := rand.New(rand.NewSource(1))
	for range 500 {
		l = append(l, int(r.Int63n(impl.MaxNum+1)>>r.Intn(48)))
	}
	return l
}

// signedNumbers lists numbers and negative ints, as far as PutZig takes them.
func signedNumbers() []int {
	l := []int{leastZig, leastZig + 1, mostZig - 1, mostZig}
	for _, n := range numbers() {
		l = append(l, n/2, -(n/2)-1)
	}
	return l
}

// surroundings are bytes before and behind an encoding, among them some that look like a part of one.
var surroundings = [][]byte{nil, {0}, {128}, {255, 255, 255}, {1, 2, 3, 4, 5, 6, 7, 8, 9}, {128, 128, 0, 127}}

type putter func([]byte, int) ([]byte, bool)

type getter func([]byte, int) (int, int, bool)

// getFixNext gives GetFix the shape of the other two.
func getFixNext(b []byte, at int) (int, int, bool) {
	n, ok := impl.GetFix(b, at)
	if !ok {
		return n, 0, false
	}
	return n, at + 6, true
}

type code struct {
	name   string
	put    putter
	get    getter
	good   []int
	bad    []int
	encode func(n int) []byte
}

func codes() []code {
	return []code{
		{"Var", impl.PutVar, impl.GetVar, numbers(), notNumbers, wantVar},
		{"Zig", impl.PutZig, impl.GetZig, signedNumbers(), notZigs(), wantZig},
		{"Fix", impl.PutFix, getFixNext, numbers(), notNumbers, wantFix},
	}
}

func notZigs() []int {
	return []int{leastZig - 1, leastZig - 2, mostZig + 1, mostZig + 2, -impl.MaxNum, impl.MaxNum, math.MinInt, math.MinInt + 1, math.MaxInt, math.MaxInt/2 + 1, math.MinInt / 2}
}

func wantVar(n int) []byte { return binary.AppendUvarint(nil, uint64(n)) }

func wantZig(n int) []byte { return binary.AppendVarint(nil, int64(n)) }

func wantFix(n int) []byte { return binary.BigEndian.AppendUint64(nil, uint64(n))[2:] }

func TestKnownEncodings(t *testing.T) {
	for _, c := range []struct {
		put  putter
		n    int
		want string
	}{
		{impl.PutVar, 0, "\x00"},
		{impl.PutVar, 1, "\x01"},
		{impl.PutVar, 127, "\x7f"},
		{impl.PutVar, 128, "\x80\x01"},
		{impl.PutVar, 300, "\xac\x02"},
		{impl.PutVar, 16383, "\xff\x7f"},
		{impl.PutVar, 16384, "\x80\x80\x01"},
		{impl.PutVar, impl.MaxNum, "\xff\xff\xff\xff\xff\xff\x3f"},
		{impl.PutZig, 0, "\x00"},
		{impl.PutZig, -1, "\x01"},
		{impl.PutZig, 1, "\x02"},
		{impl.PutZig, -3, "\x05"},
		{impl.PutZig, 63, "\x7e"},
		{impl.PutZig, -64, "\x7f"},
		{impl.PutZig, 64, "\x80\x01"},
		{impl.PutZig, -65, "\x81\x01"},
		{impl.PutZig, mostZig, "\xfe\xff\xff\xff\xff\xff\x3f"},
		{impl.PutZig, leastZig, "\xff\xff\xff\xff\xff\xff\x3f"},
		{impl.PutFix, 0, "\x00\x00\x00\x00\x00\x00"},
		{impl.PutFix, 255, "\x00\x00\x00\x00\x00\xff"},
		{impl.PutFix, 256, "\x00\x00\x00\x00\x01\x00"},
		{impl.PutFix, 0x010203040506, "\x01\x02\x03\x04\x05\x06"},
		{impl.PutFix, impl.MaxNum, "\xff\xff\xff\xff\xff\xff"},
	} {
		b, ok := c.put(nil, c.n)
		if !ok || string(b) != c.want {
			t.Errorf("%d: %x, %v, want %x", c.n, b, ok, c.want)
		}
	}
}

func TestNumbersAreRecovered(t *testing.T) {
	for _, c := range codes() {
		for _, n := range c.good {
			for _, before := range surroundings {
				for _, behind := range surroundings {
					b, ok := c.put(before, n)
					if !ok || string(b) != string(before)+string(c.encode(n)) {
						t.Fatalf("Put%s(%x, %d) = %x, %v", c.name, before, n, b, ok)
					}
					end := len(b)
					got, next, ok := c.get(append(b, behind...), len(before))
					if !ok || got != n || next != end {
						t.Fatalf("Get%s of %d between %x and %x = %d, %d, %v", c.name, n, before, behind, got, next, ok)
					}
				}
			}
		}
	}
}

func TestSequencesAreRecovered(t *testing.T) {
	for _, c := range codes() {
		var b []byte
		for _, n := range c.good {
			b, _ = c.put(b, n)
		}
		at := 0
		for i, n := range c.good {
			got, next, ok := c.get(b, at)
			if !ok || got != n || next != at+len(c.encode(n)) {
				t.Fatalf("%s: element %d = %d, %d, %v, want %d", c.name, i, got, next, ok, n)
			}
			at = next
		}
		if at != len(b) {
			t.Errorf("%s: %d bytes left", c.name, len(b)-at)
		}
	}
}

func TestPutRejects(t *testing.T) {
	for _, c := range codes() {
		for _, n := range c.bad {
			for _, before := range surroundings {
				if b, ok := c.put(before, n); ok || b != nil {
					t.Errorf("Put%s(%x, %d) = %x, %v", c.name, before, n, b, ok)
				}
			}
		}
	}
}

func rejects(t *testing.T, c code, b []byte, at int) {
	t.Helper()
	if n, next, ok := c.get(b, at); ok || n != 0 || next != 0 {
		t.Errorf("Get%s(%x, %d) = %d, %d, %v, want zeros and false", c.name, b, at, n, next, ok)
	}
}

func TestGetRejectsOffsets(t *testing.T) {
	for _, c := range codes() {
		for _, b := range [][]byte{nil, {}, {5}, {1, 2, 3, 4, 5}, {1, 2, 3, 4, 5, 6}, {1, 2, 3, 4, 5, 6, 7, 8, 9, 10}} {
			for _, at := range []int{-1, -2, -6, -7, -100, math.MinInt, math.MinInt + 5, len(b), len(b) + 1, len(b) + 6, 1000, math.MaxInt - 6, math.MaxInt - 5, math.MaxInt - 1, math.MaxInt} {
				rejects(t, c, b, at)
			}
		}
	}
}

func TestGetRejectsTruncated(t *testing.T) {
	for _, c := range codes() {
		for _, n := range c.good {
			whole := c.encode(n)
			for k := range whole {
				for _, before := range surroundings {
					rejects(t, c, slices.Concat(before, whole[:k]), len(before))
				}
			}
		}
	}
}

func TestGetFixNeedsSixBytes(t *testing.T) {
	b := []byte{1, 2, 3, 4, 5, 6, 7, 8}
	for at := range 10 {
		n, ok := impl.GetFix(b, at)
		if at > 2 && (ok || n != 0) {
			t.Errorf("offset %d: %d, %v, want 0, false", at, n, ok)
		}
		if at <= 2 && (!ok || !bytes.Equal(wantFix(n), b[at:at+6])) {
			t.Errorf("offset %d: %x, %v", at, n, ok)
		}
	}
}

func TestGetRejectsLongerEncodings(t *testing.T) {
	for _, c := range codes()[:2] {
		for _, n := range c.good {
			for zeros := range 4 {
				b := c.encode(n)
				b[len(b)-1] |= 128
				b = append(b, bytes.Repeat([]byte{128}, zeros)...)
				rejects(t, c, append(b, 0), 0)
				rejects(t, c, append(b, 0, 1), 0)
			}
		}
		rejects(t, c, []byte{128, 0}, 0)
		rejects(t, c, []byte{129, 0}, 0)
		rejects(t, c, []byte{128, 128, 128, 128, 128, 128, 0}, 0)
	}
}

func TestGetRejectsValuesAboveMaxNum(t *testing.T) {
	above := []uint64{impl.MaxNum + 1, impl.MaxNum + 2, impl.MaxNum + 128, 1<<49 - 1, 1 << 49, 1<<56 - 1, 1 << 56, 1 << 62, 1<<63 - 1, 1 << 63, math.MaxUint64}
	for _, c := range codes()[:2] {
		for _, n := range above {
			rejects(t, c, binary.AppendUvarint(nil, n), 0)
		}
		rejects(t, c, bytes.Repeat([]byte{255}, 30), 0)
		rejects(t, c, append(bytes.Repeat([]byte{128}, 9), 2), 0)
		rejects(t, c, append(bytes.Repeat([]byte{128}, 64), 1), 0)
	}
}

// wantGetVar searches by another way: the first byte below 128 ends an encoding, and the encoding must be the one of its value.
func wantGetVar(b []byte, at int) (int, int, bool) {
	for end := at; end < len(b); end++ {
		if b[end] >= 128 {
			continue
		}
		n := new(big.Int)
		for i := end; i >= at; i-- {
			n.Lsh(n, 7).Add(n, big.NewInt(int64(b[i]%128)))
		}
		if n.Cmp(big.NewInt(impl.MaxNum)) > 0 || !bytes.Equal(wantVar(int(n.Int64())), b[at:end+1]) {
			return 0, 0, false
		}
		return int(n.Int64()), end + 1, true
	}
	return 0, 0, false
}

func checkGets(t *testing.T, b []byte) {
	t.Helper()
	for at := range len(b) + 1 {
		n, next, ok := wantGetVar(b, at)
		if a, x, fine := impl.GetVar(b, at); a != n || x != next || fine != ok {
			t.Fatalf("GetVar(%x, %d) = %d, %d, %v, want %d, %d, %v", b, at, a, x, fine, n, next, ok)
		}
		// The second half of the unsigned range mirrors the first one around -1/2.
		z := n / 2
		if n%2 == 1 {
			z = -1 - z
		}
		if a, x, fine := impl.GetZig(b, at); a != z || x != next || fine != ok {
			t.Fatalf("GetZig(%x, %d) = %d, %d, %v, want %d, %d, %v", b, at, a, x, fine, z, next, ok)
		}
	}
}

func TestGetOfAnyBytes(t *testing.T) {
	for x := range 256 {
		checkGets(t, []byte{byte(x)})
		for y := range 256 {
			checkGets(t, []byte{byte(x), byte(y)})
			checkGets(t, []byte{128, byte(x), byte(y)})
			checkGets(t, []byte{128, 128, 128, 128, 128, byte(x), byte(y)})
		}
	}
	r := rand.New(rand.NewSource(2))
	for range 20000 {
		b := make([]byte, r.Intn(14))
		for i := range b {
			b[i] = byte(r.Intn(256)) | byte(r.Intn(4)/3*128)
		}
		checkGets(t, b)
	}
}

func TestPutUsesNewMemory(t *testing.T) {
	for _, c := range codes() {
		for _, size := range []int{0, 1, 3, 20} {
			room := bytes.Repeat([]byte{77}, 64)
			b := room[:size]
			first, _ := c.put(b, 5)
			second, _ := c.put(b, 6)
			if string(first) != string(b)+string(c.encode(5)) || string(second) != string(b)+string(c.encode(6)) {
				t.Errorf("Put%s behind %d bytes: %x, %x", c.name, size, first, second)
			}
			for i := range first {
				first[i] = 99
			}
			if !bytes.Equal(room, bytes.Repeat([]byte{77}, 64)) || string(second) != string(b)+string(c.encode(6)) {
				t.Errorf("Put%s behind %d bytes shares memory", c.name, size)
			}
			c.put(b, c.bad[0])
			if !bytes.Equal(room, bytes.Repeat([]byte{77}, 64)) {
				t.Errorf("Put%s of an invalid argument writes", c.name)
			}
		}
	}
}

func TestReadersChangeNothing(t *testing.T) {
	for _, b := range [][]byte{{172, 2, 7}, {128, 0}, {255, 255, 255, 255, 255, 255, 255, 255}, {1, 2, 3, 4, 5, 6}} {
		kept := bytes.Clone(b)
		for at := -1; at <= len(b)+1; at++ {
			impl.GetVar(b, at)
			impl.GetZig(b, at)
			impl.GetFix(b, at)
		}
		impl.Crc(b)
		if !bytes.Equal(b, kept) {
			t.Errorf("%x became %x", kept, b)
		}
	}
}

func TestCrc(t *testing.T) {
	for s, want := range map[string]int{
		"":          0,
		"a":         3904355907,
		"123456789": 3421780262,
		"\x00":      3523407757,
		"\xff":      4278190080,
	} {
		if got := impl.Crc([]byte(s)); got != want {
			t.Errorf("Crc(%q) = %d, want %d", s, got, want)
		}
	}
	if impl.Crc(nil) != 0 {
		t.Error("Crc(nil) is not 0")
	}
	r := rand.New(rand.NewSource(3))
	for size := range 300 {
		b := make([]byte, size)
		r.Read(b)
		want := int(crc32.ChecksumIEEE(b))
		if got := impl.Crc(b); got != want || impl.Crc(b) != want {
			t.Errorf("Crc(%x) = %d, want %d", b, got, want)
		}
	}
	for x := range 256 {
		b := bytes.Repeat([]byte{byte(x)}, 200)
		if got := impl.Crc(b); got != int(crc32.ChecksumIEEE(b)) {
			t.Errorf("Crc of 200 times %d = %d", x, got)
		}
	}
}

func TestNumText(t *testing.T) {
	for n, want := range map[int]string{0: "0", 7: "7", 10: "10", 120: "120", 1000000: "1000000", impl.MaxNum: "281474976710655"} {
		if got := impl.NumText(n); got != want {
			t.Errorf("NumText(%d) = %q, want %q", n, got, want)
		}
	}
	for _, n := range numbers() {
		if got := impl.NumText(n); got != strconv.FormatInt(int64(n), 10) {
			t.Errorf("NumText(%d) = %q", n, got)
		}
	}
	for _, n := range notNumbers {
		if got := impl.NumText(n); got != "" {
			t.Errorf("NumText(%d) = %q, want the empty string", n, got)
		}
	}
}

func TestTextNum(t *testing.T) {
	for _, n := range numbers() {
		if got, ok := impl.TextNum(impl.NumText(n)); !ok || got != n {
			t.Errorf("TextNum of the text of %d = %d, %v", n, got, ok)
		}
	}
	for _, s := range []string{
		"", " ", "  ", "00", "01", "012", "000", "0281474976710655",
		"-1", "-0", "+0", "+1", "-", "+", "--1",
		" 1", "1 ", "1 2", "\t1", "1\n", "\n", "\x00", "1\x00",
		"281474976710656", "281474976710660", "999999999999999", "1000000000000000",
		"9223372036854775807", "9223372036854775808", "18446744073709551616", "18446744073709551617",
		"340282366920938463463374607431768211457", strings.Repeat("9", 1000), strings.Repeat("0", 1000),
		"a", "1a", "a1", "0x1", "0x", "1e3", "1.0", "1.", ".1", "1_000", "1,000", "0b1", "0o7", "\u0661", "\uff11", "\xff", "\u00b2",
	} {
		if got, ok := impl.TextNum(s); ok || got != 0 {
			t.Errorf("TextNum(%q) = %d, %v, want 0, false", s, got, ok)
		}
	}
}

func TestTextNumOfAnyBytes(t *testing.T) {
	for x := range 256 {
		digit := x >= '0' && x <= '9'
		if n, ok := impl.TextNum(string([]byte{byte(x)})); ok != digit || digit && n != x-'0' {
			t.Errorf("one byte %d: %d, %v", x, n, ok)
		}
		if n, ok := impl.TextNum(string([]byte{'4', byte(x)})); ok != digit || digit && n != 40+x-'0' {
			t.Errorf("4 and the byte %d: %d, %v", x, n, ok)
		}
		if n, ok := impl.TextNum(string([]byte{byte(x), '4'})); ok != (digit && x != '0') || ok && n != 10*(x-'0')+4 {
			t.Errorf("the byte %d and 4: %d, %v", x, n, ok)
		}
	}
}

func TestParts(t *testing.T) {
	for _, c := range []struct {
		s    string
		want []string
	}{
		{"", []string{""}},
		{" ", []string{"", ""}},
		{"   ", []string{"", "", "", ""}},
		{"a", []string{"a"}},
		{"a b", []string{"a", "b"}},
		{"a  b", []string{"a", "", "b"}},
		{" a b ", []string{"", "a", "b", ""}},
		{"run 12 0", []string{"run", "12", "0"}},
		{"a\tb\nc\rd", []string{"a\tb\nc\rd"}},
		{"a\u00a0b\u2003c", []string{"a\u00a0b\u2003c"}},
		{"\xff \xc3 \x00", []string{"\xff", "\xc3", "\x00"}},
	} {
		if got := impl.Parts(c.s); !slices.Equal(got, c.want) {
			t.Errorf("Parts(%q) = %q, want %q", c.s, got, c.want)
		}
	}
}

func TestPartsOfAnyBytes(t *testing.T) {
	r := rand.New(rand.NewSource(4))
	for range 2000 {
		b := make([]byte, r.Intn(30))
		r.Read(b)
		for i := range b {
			if r.Intn(3) == 0 {
				b[i] = 32
			}
		}
		s := string(b)
		l := impl.Parts(s)
		if len(l) != strings.Count(s, " ")+1 || strings.Join(l, " ") != s {
			t.Fatalf("Parts(%q) = %q", s, l)
		}
		l[0] = "changed"
		if len(l) == 1 && impl.Parts(s)[0] != s {
			t.Fatalf("Parts(%q) keeps its result", s)
		}
	}
}
