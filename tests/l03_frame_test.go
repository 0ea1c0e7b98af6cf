package tests

import (
	"bytes"
	"fmt"
	"hash/crc32"
	"math"
	"math/rand"
	"slices"
	"testing"

	"loop.example/g00671/impl"
)

func frame(kind int, text string) impl.Frame { return impl.Frame{Kind: kind, Data: []byte(text)} }

func sameFrame(a, b impl.Frame) bool { return a.Kind == b.Kind && bytes.Equal(a.Data, b.Data) }

func sameFrames(a, b []impl.Frame) bool { return slices.EqualFunc(a, b, sameFrame) }

func sumOf(b []byte) int { return int(crc32.ChecksumIEEE(b)) }

// lead makes the first eight bytes of a frame, also of one that must be rejected.
func lead(mark, kind byte, size int) []byte { return append([]byte{mark, kind}, wantFix(size)...) }

// sealed puts the Crc behind a lead that it matches, whatever the lead says.
func sealed(lead []byte) []byte { return slices.Concat(lead, wantFix(sumOf(lead))) }

// body is what follows the first Crc.
func body(data []byte) []byte { return slices.Concat(wantFix(sumOf(data)), data) }

func wantFrame(f impl.Frame) []byte {
	return slices.Concat(sealed(lead(71, byte(f.Kind), len(f.Data))), body(f.Data))
}

func wantFrames(l ...impl.Frame) []byte {
	var out []byte
	for _, f := range l {
		out = append(out, wantFrame(f)...)
	}
	return out
}

func pattern(size int) []byte {
	out := make([]byte, size)
	for i := range out {
		out[i] = byte(i*7 + i>>8)
	}
	return out
}

// wantRead decodes by encoding: it looks for the frame whose encoding is what lies there.
func wantRead(b []byte, at int) (impl.Frame, int, int) {
	if at < 0 || at > len(b) {
		return impl.Frame{}, 0, 1
	}
	rest := b[at:]
	if len(rest) < 14 {
		return impl.Frame{}, 0, 2
	}
	size := 0
	for _, x := range rest[2:8] {
		size = size*256 + int(x)
	}
	for kind := 1; kind <= 3 && size <= 60000; kind++ {
		if !bytes.HasPrefix(rest, sealed(lead(71, byte(kind), size))) {
			continue
		}
		if len(rest) < 20+size {
			return impl.Frame{}, 0, 4
		}
		f := impl.Frame{Kind: kind, Data: rest[20 : 20+size]}
		if !bytes.HasPrefix(rest, wantFrame(f)) {
			return impl.Frame{}, 0, 5
		}
		return f, at + 20 + size, 0
	}
	return impl.Frame{}, 0, 3
}

func wantReadAll(b []byte) ([]impl.Frame, int) {
	var out []impl.Frame
	at := 0
	for {
		f, next, c := wantRead(b, at)
		if c != 0 {
			return out, at
		}
		out, at = append(out, f), next
	}
}

// checkRead compares FrameRead with the model and with the code that the caller expects.
func checkRead(t *testing.T, what string, b []byte, at int, want int) {
	t.Helper()
	f, next, c := impl.FrameRead(b, at)
	g, behind, model := wantRead(b, at)
	if c != want || model != want || next != behind || !sameFrame(f, g) {
		t.Errorf("%s: FrameRead(%s, %d) = %s, %d, %d, want %s, %d, %d", what, brief(b), at, brief(f), next, c, brief(g), behind, want)
	}
}

// checkReads compares all three readers with the model.
func checkReads(t *testing.T, what string, b []byte) {
	t.Helper()
	for _, at := range []int{0, 1, 20, len(b) - 1, len(b), len(b) + 1} {
		_, _, c := wantRead(b, at)
		checkRead(t, what, b, at, c)
	}
	l, end := impl.FramesRead(b)
	m, stop := wantReadAll(b)
	if end != stop || !sameFrames(l, m) {
		t.Errorf("%s: FramesRead(%s) = %s, %d, want %s, %d", what, brief(b), brief(l), end, brief(m), stop)
	}
	for kind := -1; kind <= 4; kind++ {
		one := len(m) == 1 && stop == len(b) && m[0].Kind == kind
		var want []byte
		if one {
			want = m[0].Data
		}
		if data, ok := impl.FrameOnly(b, kind); ok != one || !bytes.Equal(data, want) {
			t.Errorf("%s: FrameOnly(%s, %d) = %s, %v, want %s, %v", what, brief(b), kind, brief(data), ok, brief(want), one)
		}
	}
}

var notKinds = []int{0, 4, 5, 70, 71, 72, 128, 255, 256, 257, 258, 259, -1, -2, -3, -253, -254, -255, 1 << 32, 1<<32 + 1, 1<<32 + 2, 1<<32 + 3, math.MinInt, math.MinInt + 1, math.MinInt + 2, math.MaxInt, math.MaxInt - 1}

var goodSizes = []int{0, 1, 2, 3, 5, 6, 7, 13, 14, 15, 19, 20, 21, 127, 128, 255, 256, 257, 1000, 59999, 60000}

// rows are lists of frames that stand behind each other in the tests below.
func rows() [][]impl.Frame {
	inner := string(wantFrame(frame(impl.FrCommit, "inner")))
	return [][]impl.Frame{
		{},
		{frame(1, "")},
		{frame(2, "x")},
		{frame(3, "hi")},
		{frame(1, ""), frame(1, "")},
		{frame(3, "one"), frame(2, ""), frame(1, "three")},
		{frame(2, "same"), frame(2, "same"), frame(2, "same")},
		{frame(1, "G"), frame(2, "GG\x01"), frame(3, "\x00\x00\x00\x00\x00\x00\xff")},
		{frame(1, inner), frame(3, "after")},
		{frame(3, "before"), frame(2, inner+inner), frame(1, "")},
		{frame(2, string(pattern(300))), frame(3, "tail")},
	}
}

func TestFrameConstants(t *testing.T) {
	got := []int{impl.MaxFrame, impl.FrGraph, impl.FrValues, impl.FrCommit}
	if !slices.Equal(got, []int{60000, 1, 2, 3}) {
		t.Errorf("constants %v", got)
	}
}

func TestFramesOfEverySizeAndKind(t *testing.T) {
	for kind := 1; kind <= 3; kind++ {
		for _, size := range goodSizes {
			what := fmt.Sprintf("kind %d with %d bytes", kind, size)
			f := impl.Frame{Kind: kind, Data: pattern(size)}
			if !impl.FrameOk(f) {
				t.Errorf("%s: not valid", what)
			}
			b, ok := impl.FrameBytes(f)
			if !ok || len(b) != 20+size || !bytes.Equal(b, wantFrame(f)) {
				t.Errorf("%s: FrameBytes = %s, %v", what, brief(b), ok)
			}
			got, next, c := impl.FrameRead(b, 0)
			if c != 0 || next != 20+size || !sameFrame(got, f) {
				t.Errorf("%s: FrameRead = %s, %d, %d", what, brief(got), next, c)
			}
			checkReads(t, what, b)
		}
	}
}

func TestFrameBytesKnown(t *testing.T) {
	for _, c := range []struct {
		f    impl.Frame
		want string
	}{
		{impl.Frame{Kind: impl.FrGraph}, "\x47\x01\x00\x00\x00\x00\x00\x00\x00\x00\xe0\x0d\x1f\x29\x00\x00\x00\x00\x00\x00"},
		{frame(impl.FrGraph, ""), "\x47\x01\x00\x00\x00\x00\x00\x00\x00\x00\xe0\x0d\x1f\x29\x00\x00\x00\x00\x00\x00"},
		{frame(impl.FrValues, "\x00"), "\x47\x02\x00\x00\x00\x00\x00\x01\x00\x00\xa6\xe2\x35\x22\x00\x00\xd2\x02\xef\x8d\x00"},
		{frame(impl.FrCommit, "hi"), "\x47\x03\x00\x00\x00\x00\x00\x02\x00\x00\x99\x9c\x6f\x2c\x00\x00\xd8\x93\x2a\xac\x68\x69"},
		{frame(impl.FrGraph, "123456789"), "\x47\x01\x00\x00\x00\x00\x00\x09\x00\x00\x99\xd1\xa7\x8d\x00\x00\xcb\xf4\x39\x26123456789"},
	} {
		b, ok := impl.FrameBytes(c.f)
		if !ok || string(b) != c.want {
			t.Errorf("%s: %x, %v, want %x", brief(c.f), b, ok, c.want)
		}
		if f, next, code := impl.FrameRead([]byte(c.want), 0); code != 0 || next != len(c.want) || !sameFrame(f, c.f) {
			t.Errorf("%x: %s, %d, %d", c.want, brief(f), next, code)
		}
	}
}

func TestFramesThatAreNotValid(t *testing.T) {
	var bad []impl.Frame
	for _, kind := range notKinds {
		bad = append(bad, impl.Frame{Kind: kind}, frame(kind, "x"), impl.Frame{Kind: kind, Data: pattern(impl.MaxFrame + 1)})
	}
	for kind := 1; kind <= 3; kind++ {
		for _, size := range []int{60001, 60002, 65536, 120000, 200000} {
			bad = append(bad, impl.Frame{Kind: kind, Data: pattern(size)})
		}
	}
	for _, f := range bad {
		if impl.FrameOk(f) {
			t.Errorf("kind %d with %d bytes is valid", f.Kind, len(f.Data))
		}
		if b, ok := impl.FrameBytes(f); ok || b != nil {
			t.Errorf("kind %d with %d bytes: FrameBytes = %s, %v", f.Kind, len(f.Data), brief(b), ok)
		}
	}
}

func TestFramesAreRecovered(t *testing.T) {
	for _, row := range rows() {
		var b []byte
		starts := []int{}
		for _, f := range row {
			part, ok := impl.FrameBytes(f)
			if !ok {
				t.Fatalf("%s has no encoding", brief(f))
			}
			starts = append(starts, len(b))
			b = append(b, part...)
		}
		for i, f := range row {
			end := len(b)
			if i+1 < len(row) {
				end = starts[i+1]
			}
			if got, next, c := impl.FrameRead(b, starts[i]); c != 0 || next != end || !sameFrame(got, f) {
				t.Errorf("frame %d of %s: %s, %d, %d", i, brief(row), brief(got), next, c)
			}
		}
		if l, end := impl.FramesRead(b); end != len(b) || !sameFrames(l, row) {
			t.Errorf("FramesRead of %s: %s, %d", brief(row), brief(l), end)
		}
		checkRead(t, "at the end", b, len(b), 2)
		checkReads(t, "a row", b)
	}
}

func TestNoData(t *testing.T) {
	for _, b := range [][]byte{nil, {}} {
		checkRead(t, "no data", b, 0, 2)
		checkRead(t, "no data", b, 1, 1)
		checkRead(t, "no data", b, -1, 1)
		checkReads(t, "no data", b)
		for kind := -1; kind <= 4; kind++ {
			if data, ok := impl.FrameOnly(b, kind); ok || data != nil {
				t.Errorf("FrameOnly of no data and kind %d: %x, %v", kind, data, ok)
			}
		}
	}
}

func TestFrameReadOffsets(t *testing.T) {
	for _, row := range rows() {
		b := wantFrames(row...)
		for _, at := range []int{-1, -2, -14, -20, -len(b) - 1, math.MinInt, math.MinInt + 1, math.MinInt + 20, len(b) + 1, len(b) + 2, len(b) + 14, len(b) + 20, 1 << 32, math.MaxInt - 20, math.MaxInt - 14, math.MaxInt - 1, math.MaxInt} {
			checkRead(t, "an offset outside", b, at, 1)
		}
		for at := range len(b) + 1 {
			_, _, c := wantRead(b, at)
			checkRead(t, "an offset inside", b, at, c)
		}
	}
}

// checkCut looks at what is left of a row after size bytes, both with and without the lost bytes behind the slice.
func checkCut(t *testing.T, row []impl.Frame, b []byte, size int) {
	t.Helper()
	whole, start := 0, 0
	for whole < len(row) && start+20+len(row[whole].Data) <= size {
		start += 20 + len(row[whole].Data)
		whole++
	}
	want := 4
	if size-start < 14 {
		want = 2
	}
	for _, cut := range [][]byte{b[:size], b[:size:size]} {
		if l, end := impl.FramesRead(cut); end != start || !sameFrames(l, row[:whole]) {
			t.Errorf("%s cut at %d: FramesRead = %s, %d, want %d frames, %d", brief(row), size, brief(l), end, whole, start)
		}
		if f, next, c := impl.FrameRead(cut, start); c != want || next != 0 || !sameFrame(f, impl.Frame{}) {
			t.Errorf("%s cut at %d: FrameRead = %s, %d, %d, want %d", brief(row), size, brief(f), next, c, want)
		}
	}
}

func TestTruncatedFrames(t *testing.T) {
	for _, row := range rows() {
		b := wantFrames(row...)
		for size := range len(b) + 1 {
			checkCut(t, row, b, size)
		}
	}
}

func TestTruncatedGreatestFrame(t *testing.T) {
	row := []impl.Frame{frame(3, "before"), {Kind: impl.FrGraph, Data: pattern(impl.MaxFrame)}}
	b := wantFrames(row...)
	for size := 26; size < len(b); size += 1 + size/40 {
		checkCut(t, row, b, size)
	}
	checkCut(t, row, b, len(b)-1)
	checkCut(t, row, b, len(b))
}

// checkChanged changes one byte of frame i of a row, at an offset within this frame.
func checkChanged(t *testing.T, row []impl.Frame, b []byte, i, start, within int, mask byte) {
	t.Helper()
	x := bytes.Clone(b)
	x[start+within] ^= mask
	want := 5
	if within < 14 {
		want = 3
	}
	if l, end := impl.FramesRead(x); end != start || !sameFrames(l, row[:i]) {
		t.Errorf("byte %d of frame %d of %s changed: FramesRead = %s, %d, want %d", within, i, brief(row), brief(l), end, start)
	}
	if f, next, c := impl.FrameRead(x, start); c != want || next != 0 || !sameFrame(f, impl.Frame{}) {
		t.Errorf("byte %d of frame %d of %s changed: FrameRead = %s, %d, %d, want %d", within, i, brief(row), brief(f), next, c, want)
	}
	if len(row) == 1 {
		if data, ok := impl.FrameOnly(x, row[0].Kind); ok || data != nil {
			t.Errorf("byte %d of %s changed: FrameOnly = %s, %v", within, brief(row), brief(data), ok)
		}
	}
}

func TestChangedFrames(t *testing.T) {
	for _, row := range rows() {
		b := wantFrames(row...)
		start := 0
		for i, f := range row {
			for within := range 20 + len(f.Data) {
				for mask := 1; mask < 256; mask += 1 + len(b)/30 {
					checkChanged(t, row, b, i, start, within, byte(mask))
				}
				for bit := range 8 {
					checkChanged(t, row, b, i, start, within, 1<<bit)
				}
			}
			start += 20 + len(f.Data)
		}
	}
}

func TestChangedGreatestFrame(t *testing.T) {
	row := []impl.Frame{{Kind: impl.FrValues, Data: pattern(impl.MaxFrame)}}
	b := wantFrames(row...)
	for _, within := range []int{0, 1, 2, 5, 6, 7, 8, 13, 14, 19, 20, 21, 30000, 60018, 60019} {
		checkChanged(t, row, b, 0, 0, within, 1)
		checkChanged(t, row, b, 0, 0, within, 128)
	}
}

func TestHeadsUnderAMatchingSum(t *testing.T) {
	data := []byte("payload")
	for mark := range 256 {
		b := slices.Concat(sealed(lead(byte(mark), 2, len(data))), body(data))
		want := 3
		if mark == 71 {
			want = 0
		}
		checkRead(t, fmt.Sprintf("first byte %d", mark), b, 0, want)
		checkReads(t, fmt.Sprintf("first byte %d", mark), b)
	}
	for kind := range 256 {
		b := slices.Concat(sealed(lead(71, byte(kind), len(data))), body(data))
		want := 3
		if kind >= 1 && kind <= 3 {
			want = 0
		}
		checkRead(t, fmt.Sprintf("kind %d", kind), b, 0, want)
		checkReads(t, fmt.Sprintf("kind %d", kind), b)
		if got, ok := impl.FrameOnly(b, kind); ok != (want == 0) || ok && !bytes.Equal(got, data) || !ok && got != nil {
			t.Errorf("FrameOnly of kind %d: %x, %v", kind, got, ok)
		}
	}
}

func TestLengthsUnderAMatchingSum(t *testing.T) {
	for _, size := range []int{60001, 60002, 65535, 65536, 1 << 24, 1 << 32, 1<<32 + 7, 1 << 40, 1 << 47, impl.MaxNum - 20, impl.MaxNum} {
		for kind := 1; kind <= 3; kind++ {
			head := sealed(lead(71, byte(kind), size))
			what := fmt.Sprintf("length %d", size)
			checkRead(t, what, head, 0, 3)
			checkRead(t, what, slices.Concat(head, body([]byte("payload"))), 0, 3)
			// The data is complete for some of the lengths, and still too long.
			checkRead(t, what, slices.Concat(head, body(pattern(min(size, 70000)))), 0, 3)
		}
	}
	for _, size := range []int{0, 1, 59999, 60000} {
		head := sealed(lead(71, 1, size))
		checkRead(t, fmt.Sprintf("length %d", size), head, 0, 4)
		checkRead(t, fmt.Sprintf("length %d", size), slices.Concat(head, body(pattern(size))), 0, 0)
	}
}

// sumsBeside are six-byte fields that differ from a Crc, some of them only above its 32 bits.
func sumsBeside(sum int) []int {
	l := []int{sum ^ 1, sum ^ 1<<31, sum ^ (1<<32 - 1), sum | 1<<32, sum | 1<<33, sum | 1<<40, sum | 1<<47, sum | 0xffff<<32}
	if sum != 0 {
		l = append(l, 0)
	}
	return l
}

func TestSumsThatDoNotMatch(t *testing.T) {
	for _, f := range []impl.Frame{frame(1, ""), frame(2, "x"), frame(3, "payload")} {
		start := lead(71, byte(f.Kind), len(f.Data))
		for _, sum := range sumsBeside(sumOf(start)) {
			b := slices.Concat(start, wantFix(sum), body(f.Data))
			checkRead(t, fmt.Sprintf("first sum %x", sum), b, 0, 3)
			checkReads(t, fmt.Sprintf("first sum %x", sum), b)
		}
		for _, sum := range sumsBeside(sumOf(f.Data)) {
			b := slices.Concat(sealed(start), wantFix(sum), f.Data)
			checkRead(t, fmt.Sprintf("second sum %x", sum), b, 0, 5)
			checkReads(t, fmt.Sprintf("second sum %x", sum), b)
		}
	}
}

func TestFirstCodeCounts(t *testing.T) {
	good := wantFrame(frame(2, "payload"))
	bent := bytes.Clone(good)
	bent[0] = 70
	for size := range len(bent) + 1 {
		want := 3
		if size < 14 {
			want = 2
		}
		checkRead(t, "a changed head that is cut", bent[:size], 0, want)
	}
	bent = bytes.Clone(good)
	bent[19] ^= 1
	for size := 14; size < len(bent); size++ {
		checkRead(t, "a changed sum that is cut", bent[:size], 0, 4)
	}
	checkRead(t, "a changed sum", bent, 0, 5)
	bent[13] ^= 1
	checkRead(t, "both sums changed", bent, 0, 3)
	checkRead(t, "zeros", make([]byte, 13), 0, 2)
	checkRead(t, "zeros", make([]byte, 14), 0, 3)
	checkRead(t, "zeros", make([]byte, 20), 0, 3)
}

func TestIncompleteData(t *testing.T) {
	for _, size := range []int{0, 1, 2, 7, 40} {
		f := impl.Frame{Kind: impl.FrCommit, Data: pattern(size)}
		b := wantFrame(f)
		for have := 14; have < len(b); have++ {
			checkRead(t, fmt.Sprintf("%d of %d bytes", have, len(b)), b[:have], 0, 4)
		}
		checkRead(t, "all bytes", b, 0, 0)
	}
}

func TestFrameOnly(t *testing.T) {
	for kind := 1; kind <= 3; kind++ {
		for _, text := range []string{"", "x", "payload"} {
			b := wantFrame(frame(kind, text))
			for _, asked := range append([]int{1, 2, 3, kind + 256, kind - 256, kind + 1<<32, -kind}, notKinds...) {
				data, ok := impl.FrameOnly(b, asked)
				if ok != (asked == kind) || ok && string(data) != text || !ok && data != nil {
					t.Errorf("FrameOnly of kind %d, asked for %d: %q, %v", kind, asked, data, ok)
				}
			}
			for what, x := range map[string][]byte{
				"a byte behind":    append(bytes.Clone(b), 0),
				"a 71 behind":      append(bytes.Clone(b), 71),
				"a byte before":    append([]byte{0}, b...),
				"twice":            slices.Concat(b, b),
				"another behind":   slices.Concat(b, wantFrame(frame(1, "other"))),
				"a torn one more":  slices.Concat(b, b[:14]),
				"the last missing": b[:len(b)-1],
				"a head alone":     b[:14],
				"a part of it":     b[:13],
				"no data":          nil,
				"zeros":            make([]byte, 20),
			} {
				for _, asked := range []int{-1, 0, 1, 2, 3, 4} {
					if data, ok := impl.FrameOnly(x, asked); ok || data != nil {
						t.Errorf("%s, asked for %d: %q, %v", what, asked, data, ok)
					}
				}
			}
		}
	}
}

func TestFramesReadStops(t *testing.T) {
	first, second := frame(3, "first"), frame(1, "second")
	a, b := wantFrame(first), wantFrame(second)
	bent := bytes.Clone(b)
	bent[len(bent)-1] ^= 4
	for _, c := range []struct {
		what string
		b    []byte
		want []impl.Frame
		end  int
	}{
		{"both", slices.Concat(a, b), []impl.Frame{first, second}, len(a) + len(b)},
		{"changed in between", slices.Concat(a, bent, a), []impl.Frame{first}, len(a)},
		{"changed first", slices.Concat(bent, a, b), nil, 0},
		{"torn in between", slices.Concat(a, b[:15], a), []impl.Frame{first}, len(a)},
		{"a gap", slices.Concat(a, []byte{0}, b), []impl.Frame{first}, len(a)},
		{"zeros behind", slices.Concat(a, b, make([]byte, 50)), []impl.Frame{first, second}, len(a) + len(b)},
		{"a gap first", slices.Concat([]byte{71}, a, b), nil, 0},
	} {
		if l, end := impl.FramesRead(c.b); end != c.end || !sameFrames(l, c.want) {
			t.Errorf("%s: %s, %d, want %s, %d", c.what, brief(l), end, brief(c.want), c.end)
		}
		checkReads(t, c.what, c.b)
	}
}

func TestManyFrames(t *testing.T) {
	var row []impl.Frame
	for i := range 3000 {
		row = append(row, impl.Frame{Kind: 1 + i%3, Data: pattern(i % 40)})
	}
	b := wantFrames(row...)
	if l, end := impl.FramesRead(b); end != len(b) || !sameFrames(l, row) {
		t.Errorf("%d frames, %d of %d bytes", len(l), end, len(b))
	}
}

// fill writes over a slice and what lies behind its end.
func fill(b []byte, x byte) {
	b = b[:cap(b)]
	for i := range b {
		b[i] = x
	}
}

func TestFrameBytesGivesNewMemory(t *testing.T) {
	for _, size := range []int{0, 1, 7, 300} {
		room := pattern(400)
		kept := bytes.Clone(room)
		f := impl.Frame{Kind: impl.FrValues, Data: room[3 : 3+size]}
		impl.FrameOk(f)
		first, _ := impl.FrameBytes(f)
		second, _ := impl.FrameBytes(f)
		fill(first, 99)
		if !bytes.Equal(room, kept) || !bytes.Equal(second, wantFrame(impl.Frame{Kind: 2, Data: kept[3 : 3+size]})) {
			t.Errorf("%d bytes: FrameBytes changes or shares memory", size)
		}
	}
}

func TestFrameReadersGiveNewMemory(t *testing.T) {
	for _, row := range rows() {
		b := append(wantFrames(row...), 71, 1, 2, 3)
		room := append(bytes.Clone(b), pattern(100)...)
		b = room[:len(b)]
		kept := bytes.Clone(room)
		var results [][]byte
		l, _ := impl.FramesRead(b)
		again, _ := impl.FramesRead(b)
		for i := range l {
			results = append(results, l[i].Data, again[i].Data)
		}
		at := 0
		for range row {
			f, next, _ := impl.FrameRead(b, at)
			data, _ := impl.FrameOnly(room[at:next], f.Kind)
			results = append(results, f.Data, data)
			at = next
		}
		if !bytes.Equal(room, kept) {
			t.Errorf("%s: a reader changes its argument", brief(row))
		}
		for i, data := range results {
			fill(data, byte(i+1))
		}
		for i, data := range results {
			if data = data[:cap(data)]; bytes.Count(data, []byte{byte(i + 1)}) != len(data) {
				t.Errorf("%s: result %d shares memory with another", brief(row), i)
			}
		}
		if !bytes.Equal(room, kept) {
			t.Errorf("%s: a result shares memory with the argument", brief(row))
		}
	}
}

func TestRejectedFramesChangeNothing(t *testing.T) {
	room := wantFrames(frame(3, "first"), frame(1, "second"))
	for _, change := range []int{-1, 0, 1, 7, 13, 19, 24, 25, 40, 50} {
		b := bytes.Clone(room)
		if change >= 0 {
			b[change] ^= 255
		}
		kept := bytes.Clone(b)
		for at := -1; at <= len(b)+1; at++ {
			impl.FrameRead(b, at)
			impl.FramesRead(b[:max(0, min(at, len(b)))])
			impl.FrameOnly(b[:max(0, min(at, len(b)))], 3)
		}
		impl.FrameBytes(impl.Frame{Kind: 9, Data: b})
		if !bytes.Equal(b, kept) {
			t.Errorf("byte %d changed: an argument was written to", change)
		}
	}
}

func TestFrameReadsOfAnyBytes(t *testing.T) {
	r := rand.New(rand.NewSource(7))
	codes := map[int]int{}
	for range 20000 {
		var b []byte
		for range r.Intn(4) {
			data := make([]byte, r.Intn(12))
			r.Read(data)
			b = append(b, wantFrame(impl.Frame{Kind: 1 + r.Intn(3), Data: data})...)
		}
		for range r.Intn(3) {
			if len(b) > 0 {
				b[r.Intn(len(b))] = []byte{0, 71, 1, 255, byte(r.Intn(256))}[r.Intn(5)]
			}
		}
		b = b[:len(b)-r.Intn(len(b)+1)*r.Intn(2)]
		tail := make([]byte, r.Intn(30)*r.Intn(2))
		r.Read(tail)
		b = append(b, tail...)
		checkReads(t, "any bytes", b)
		at := r.Intn(len(b)+3) - 1
		_, end := wantReadAll(b)
		for _, at := range []int{at, end} {
			_, _, c := wantRead(b, at)
			checkRead(t, "any bytes", b, at, c)
			codes[c]++
		}
	}
	for c := range 6 {
		if codes[c] == 0 {
			t.Errorf("the code %d did not occur", c)
		}
	}
}
