package tests

import (
	"bytes"
	"encoding/binary"
	"math"
	"math/rand"
	"slices"
	"strconv"
	"testing"

	"loop.example/g00671/impl"
)

// piecesOf are the encodings of the numbers of a shard, one for each of them.
func piecesOf(s impl.Shard) [][]byte {
	l := [][]byte{wantVar(s.Lo), wantVar(s.Hi), wantVar(len(s.Edges))}
	from, to, index := 0, s.Lo, 0
	for _, e := range s.Edges {
		l = append(l, wantVar(e.From-from), wantZig(e.To-to), wantVar(e.W), wantZig(e.Index-index))
		from, to, index = e.From, e.To, e.Index
	}
	return l
}

func wantShardBytes(s impl.Shard) []byte { return bytes.Join(piecesOf(s), nil) }

func listPieces(l []int) [][]byte {
	all := [][]byte{wantVar(len(l))}
	for _, n := range l {
		all = append(all, wantFix(n))
	}
	return all
}

func wantListBytes(l []int) []byte { return bytes.Join(listPieces(l), nil) }

// loose decodes without any limit, until there is not enough left.
type loose struct {
	rest  []byte
	short bool
}

func (l *loose) skip(size int) {
	if size <= 0 || size > len(l.rest) {
		l.rest, l.short = nil, true
		return
	}
	l.rest = l.rest[size:]
}

func (l *loose) plain() int {
	n, size := binary.Uvarint(l.rest)
	l.skip(size)
	return int(n)
}

func (l *loose) signed() int {
	n, size := binary.Varint(l.rest)
	l.skip(size)
	return int(n)
}

func (l *loose) six() int {
	b := append([]byte{0, 0}, l.rest[:min(6, len(l.rest))]...)
	l.skip(6)
	if l.short {
		return 0
	}
	return int(binary.BigEndian.Uint64(b))
}

// wantShardRead demands only at the end that what it decoded is a valid shard, encoded by just these bytes.
func wantShardRead(b []byte, at int) (impl.Shard, int, bool) {
	if at < 0 || at > len(b) {
		return impl.Shard{}, 0, false
	}
	l := &loose{rest: b[at:]}
	s := shard(l.plain(), l.plain())
	from, to, index := 0, s.Lo, 0
	for m := l.plain(); m > 0 && !l.short; m-- {
		from, to = from+l.plain(), to+l.signed()
		w := l.plain()
		index += l.signed()
		s.Edges = append(s.Edges, sedge(from, to, w, index, 0))
	}
	next := len(b) - len(l.rest)
	if l.short || !wantShardOk(s) || !bytes.Equal(b[at:next], wantShardBytes(s)) {
		return impl.Shard{}, 0, false
	}
	return s, next, true
}

func wantListRead(b []byte, at int) ([]int, int, bool) {
	if at < 0 || at > len(b) {
		return nil, 0, false
	}
	l := &loose{rest: b[at:]}
	var out []int
	for m := l.plain(); m > 0 && !l.short; m-- {
		out = append(out, l.six())
	}
	next := len(b) - len(l.rest)
	if l.short || len(out) > 400 || !bytes.Equal(b[at:next], wantListBytes(out)) {
		return nil, 0, false
	}
	return out, next, true
}

func wantWithVals(s impl.Shard, vals []int) (impl.Shard, bool) {
	if !wantShardOk(s) {
		return impl.Shard{}, false
	}
	out := cloneShards([]impl.Shard{s})[0]
	for i := range out.Edges {
		e := &out.Edges[i]
		if len(vals) < e.Index+1 || !within(vals[e.Index], 1<<48-1) {
			return impl.Shard{}, false
		}
		e.Val = vals[e.Index]
	}
	return out, true
}

func withoutVals(s impl.Shard) impl.Shard {
	out := cloneShards([]impl.Shard{s})[0]
	for i := range out.Edges {
		out.Edges[i].Val = 0
	}
	return out
}

// checkShardRead also reports what the model found.
func checkShardRead(t *testing.T, what string, b []byte, at int) bool {
	t.Helper()
	s, next, ok := impl.ShardRead(b, at)
	want, wantNext, wantOk := wantShardRead(b, at)
	if !sameShard(s, want) || next != wantNext || ok != wantOk {
		t.Errorf("%s: ShardRead(%s, %d) = %s, %d, %v, want %s, %d, %v", what, brief(b), at, brief(s), next, ok, brief(want), wantNext, wantOk)
	}
	return wantOk
}

func checkListRead(t *testing.T, what string, b []byte, at int) bool {
	t.Helper()
	l, next, ok := impl.ListRead(b, at)
	want, wantNext, wantOk := wantListRead(b, at)
	if !slices.Equal(l, want) || next != wantNext || ok != wantOk {
		t.Errorf("%s: ListRead(%s, %d) = %s, %d, %v, want %s, %d, %v", what, brief(b), at, brief(l), next, ok, brief(want), wantNext, wantOk)
	}
	return wantOk
}

// reading is one of the two functions that read, told apart only where it matters.
type reading struct {
	name string
	read func(t *testing.T, what string, b []byte, at int) bool
	// again reads without a check, and returns the encoding of what is read by way of the package, the offset and whether there was any.
	again func(b []byte, at int) ([]byte, int, bool)
}

func readings() []reading {
	return []reading{
		{"ShardRead", checkShardRead, func(b []byte, at int) ([]byte, int, bool) {
			s, next, ok := impl.ShardRead(b, at)
			if !ok {
				return nil, next, false
			}
			back, _ := impl.ShardBytes(s)
			return back, next, true
		}},
		{"ListRead", checkListRead, func(b []byte, at int) ([]byte, int, bool) {
			l, next, ok := impl.ListRead(b, at)
			if !ok {
				return nil, next, false
			}
			back, _ := impl.ListBytes(l)
			return back, next, true
		}},
	}
}

func shards() reading { return readings()[0] }

func lists() reading { return readings()[1] }

// whole checks that b is read to its end, also among other bytes; which ones these are depends on its length.
func (r reading) whole(t *testing.T, what string, b []byte) {
	t.Helper()
	for i := range 2 {
		ahead := surroundings[(len(b)+i)%len(surroundings)]
		behind := surroundings[(len(b)+i+2)%len(surroundings)]
		all := slices.Concat(ahead, b, behind)
		if !r.read(t, what, all, len(ahead)) {
			t.Errorf("%s: nothing is encoded in %s at %d", what, brief(all), len(ahead))
		}
		back, next, ok := r.again(all, len(ahead))
		if !ok || next != len(ahead)+len(b) || !bytes.Equal(back, b) {
			t.Errorf("%s: %s of %s at %d leads to %d, %v, and back to %s", what, r.name, brief(all), len(ahead), next, ok, brief(back))
		}
	}
}

// cut checks that b, of which a byte is missing at least, is not read.
func (r reading) cut(t *testing.T, what string, b []byte) {
	t.Helper()
	for size := range b {
		if r.read(t, what, b[:size], 0) {
			t.Errorf("%s: something is encoded in the first %d bytes of %s", what, size, brief(b))
		}
		r.read(t, what, slices.Concat([]byte{5, 128}, b[:size]), 2)
	}
}

// changed checks that b with a byte changed is refused, or encodes what is read.
func (r reading) changed(t *testing.T, what string, b []byte, step int, masks ...int) {
	t.Helper()
	for i := 0; i < len(b); i += step {
		for _, mask := range masks {
			other := bytes.Clone(b)
			other[i] ^= byte(mask)
			r.read(t, what, other, 0)
			if back, next, ok := r.again(other, 0); ok && !bytes.Equal(back, other[:next]) {
				t.Errorf("%s: %s of %s leads to %d and back to %s", what, r.name, brief(other), next, brief(back))
			}
		}
	}
}

var everyMask = upTo(255, 1)

func checkShardBytes(t *testing.T, what string, s impl.Shard) []byte {
	t.Helper()
	b, ok := impl.ShardBytes(s)
	if want := wantShardBytes(s); !wantShardOk(s) || !ok || !bytes.Equal(b, want) {
		t.Errorf("%s: ShardBytes(%s) = %s, %v, want %s", what, brief(s), brief(b), ok, brief(want))
	}
	return b
}

// checkShardKept checks the promise P7 for a valid shard.
func checkShardKept(t *testing.T, what string, s impl.Shard) []byte {
	t.Helper()
	b := checkShardBytes(t, what, s)
	got, next, ok := impl.ShardRead(b, 0)
	if !sameShard(got, withoutVals(s)) || next != len(b) || !ok {
		t.Errorf("%s: ShardRead of the encoding of %s = %s, %d, %v, want the offset %d", what, brief(s), brief(got), next, ok, len(b))
	}
	shards().whole(t, what, b)
	return b
}

func checkListKept(t *testing.T, what string, l []int) []byte {
	t.Helper()
	b, ok := impl.ListBytes(l)
	if want := wantListBytes(l); !ok || !bytes.Equal(b, want) {
		t.Errorf("%s: ListBytes(%s) = %s, %v, want %s", what, brief(l), brief(b), ok, brief(want))
	}
	got, next, ok := impl.ListRead(b, 0)
	if !slices.Equal(got, l) || next != len(b) || !ok {
		t.Errorf("%s: ListRead of the encoding of %s = %s, %d, %v, want the offset %d", what, brief(l), brief(got), next, ok, len(b))
	}
	lists().whole(t, what, b)
	return b
}

func TestShardBytesKnown(t *testing.T) {
	for _, c := range []struct {
		s    impl.Shard
		want []byte
	}{
		{shard(0, 1), []byte{0, 1, 0}},
		{shard(5, 9), []byte{5, 9, 0}},
		{shard(149, 150), []byte{149, 1, 150, 1, 0}},
		{shard(0, 150), []byte{0, 150, 1, 0}},
		{shard(0, 1, sedge(0, 0, 0, 0, 0)), []byte{0, 1, 1, 0, 0, 0, 0}},
		// From and Index of the first edge are taken from 0, and To from Lo.
		{shard(7, 9, sedge(0, 7, 0, 0, 0)), []byte{7, 9, 1, 0, 0, 0, 0}},
		{shard(7, 9, sedge(8, 8, 5, 9, 0)), []byte{7, 9, 1, 8, 2, 5, 18}},
		{shard(0, 150, sedge(149, 149, 1000, 399, 0)), []byte{0, 150, 1, 1, 149, 1, 170, 2, 232, 7, 158, 6}},
		// To, W and Index may fall; W is no difference.
		{shard(0, 9, sedge(1, 8, 6, 9, 0), sedge(2, 0, 4, 0, 0)), []byte{0, 9, 2, 1, 16, 6, 18, 1, 15, 4, 17}},
		{shard(3, 5, sedge(6, 4, 1, 0, 0), sedge(6, 3, 1, 1, 0), sedge(6, 3, 2, 399, 0), sedge(7, 4, 2, 0, 0)),
			[]byte{3, 5, 4, 6, 2, 1, 0, 0, 1, 1, 2, 0, 0, 2, 156, 6, 1, 2, 2, 157, 6}},
		{shard(0, 150, sedge(0, 149, 128, 64, 0), sedge(149, 0, 127, 0, 0)), []byte{0, 150, 1, 2, 0, 170, 2, 128, 1, 128, 1, 149, 1, 169, 2, 127, 127}},
		// The values make no difference.
		{shard(2, 5, sedge(1, 4, 7, 3, 9), sedge(1, 2, 0, 5, 0), sedge(6, 2, 0, 0, 281474976710655)), []byte("\x02\x05\x03\x01\x04\x07\x06\x00\x03\x00\x04\x05\x00\x00\x09")},
	} {
		if b := checkShardKept(t, "a known encoding", c.s); !bytes.Equal(b, c.want) {
			t.Errorf("ShardBytes(%s) = %v, want %v", brief(c.s), b, c.want)
		}
		s, next, ok := impl.ShardRead(c.want, 0)
		if !sameShard(s, withoutVals(c.s)) || next != len(c.want) || !ok {
			t.Errorf("ShardRead(%v, 0) = %s, %d, %v, want %s, %d", c.want, brief(s), next, ok, brief(c.s), len(c.want))
		}
		shards().cut(t, "a known encoding", c.want)
		shards().changed(t, "a known encoding", c.want, 1, everyMask...)
	}
}

func TestShardsOfEverySizeArePacked(t *testing.T) {
	r := rand.New(rand.NewSource(41))
	for n := 1; n <= 150; n++ {
		for _, m := range []int{0, 1, n, r.Intn(401), 400} {
			for _, g := range []impl.Graph{randomGraph(r, n, m), gathered(r, n, m)} {
				ends := divisionsOf(r, g)[r.Intn(8)]
				for _, s := range wantShards(g, ends, 1) {
					checkShardKept(t, "the shards of some graph", s)
				}
			}
		}
	}
}

func TestShardsOfEveryNumberOfEdgesArePacked(t *testing.T) {
	r := rand.New(rand.NewSource(42))
	for m := range 401 {
		g := randomGraph(r, 150, m)
		b := checkShardKept(t, "all edges in one shard", wantShards(g, []int{150}, 1)[0])
		shards().changed(t, "all edges in one shard", b, 1+len(b)/5, 1, 128, r.Intn(256))
		for _, s := range []impl.Shard{row(0, 1, m, 400), row(149, 150, m, 3), row(0, 150, m, 17)} {
			checkShardKept(t, "edges in a row", s)
		}
	}
}

func TestTruncatedShards(t *testing.T) {
	r := rand.New(rand.NewSource(43))
	for _, m := range []int{1, 2, 3, 9, 60, 400} {
		s := wantShards(randomGraph(r, 150, m), []int{150}, 1)[0]
		shards().cut(t, "a truncated shard", wantShardBytes(s))
	}
	shards().cut(t, "a truncated shard", wantShardBytes(row(0, 1, 400, 400)))
}

func TestChangedShards(t *testing.T) {
	r := rand.New(rand.NewSource(44))
	for range 60 {
		n := 1 + r.Intn(150)
		g := gathered(r, n, 1+r.Intn(9))
		for _, s := range wantShards(g, []int{n}, 1) {
			shards().changed(t, "a changed shard", wantShardBytes(s), 1, everyMask...)
		}
	}
	for _, s := range []impl.Shard{row(0, 150, 400, 3), row(100, 150, 400, 400)} {
		shards().changed(t, "a great shard", wantShardBytes(s), 7, 1, 2, 64, 128, 255)
	}
}

func TestEveryShortShardIsPacked(t *testing.T) {
	var places []impl.Rec
	for i := range 6 {
		places = append(places, rec(0, i/3, i%3))
	}
	everyList(places, 4, func(l []impl.Rec) {
		s := shard(2, 5)
		for i, p := range l {
			s.Edges = append(s.Edges, sedge(p.B, 2+(7*i+p.C)%3, i, p.C, i))
		}
		b, ok := impl.ShardBytes(s)
		if want := wantShardOk(s); ok != want || !want && b != nil {
			t.Errorf("ShardBytes(%s) = %v, %v", brief(s), b, ok)
		}
		if ok {
			checkShardKept(t, "a short shard", s)
			return
		}
		checkRefused(t, "an order that is none", wantShardBytes(s))
	})
}

func checkRefused(t *testing.T, what string, b []byte) {
	t.Helper()
	if checkShardRead(t, what, b, 0) {
		t.Errorf("%s: %s is an encoding", what, brief(b))
	}
}

func TestShardsThatAreNotValidAreNotPacked(t *testing.T) {
	bad := badShards()
	for _, f := range fieldLimits {
		for _, x := range []int{math.MinInt, -1 << 48, -1, f.most + 1, 1 << 48, 1<<48 + 1, 1<<32 + 3, math.MaxInt} {
			s := row(0, 40, 10, 1)
			f.set(&s.Edges[3], x)
			if !within(x, f.most) {
				bad = append(bad, s)
			}
		}
	}
	for _, s := range bad {
		if b, ok := impl.ShardBytes(s); b != nil || ok || wantShardOk(s) {
			t.Errorf("ShardBytes(%s) = %s, %v", brief(s), brief(b), ok)
		}
		for _, vals := range [][]int{nil, upTo(400, 1), upTo(1000, 1)} {
			checkWithVals(t, "a shard that is not valid", s, vals, false)
		}
	}
}

// TestShardFieldsOutOfRange writes shards that are not valid as if they were.
func TestShardFieldsOutOfRange(t *testing.T) {
	for _, lo := range []int{0, 1, 39, 148, 149, 150, 151, 255, 1 << 32, impl.MaxNum} {
		for _, hi := range []int{0, 1, 2, 39, 40, 149, 150, 151, 256, 1 << 32, 1<<32 + 1, impl.MaxNum} {
			for _, s := range []impl.Shard{shard(lo, hi), shard(lo, hi, sedge(0, lo, 0, 0, 0)), shard(lo, hi, sedge(0, hi-1, 0, 0, 0)), shard(lo, hi, sedge(0, hi, 0, 0, 0))} {
				if got := checkShardRead(t, "Lo and Hi", wantShardBytes(s), 0); got != wantShardOk(s) {
					t.Errorf("ShardRead of the encoding of %s is %v", brief(s), got)
				}
			}
		}
	}
	for _, f := range fieldLimits[:4] {
		for _, x := range []int{0, 1, -1, -2, -150, -1 << 32, f.most - 1, f.most, f.most + 1, 149, 150, 399, 400, 1000, 1001, 1 << 32, 1<<32 + 1, 1 << 46, -1 << 46} {
			for _, at := range []int{0, 1, 5, 9} {
				s := row(0, 40, 10, 10)
				f.set(&s.Edges[at], x)
				b := wantShardBytes(s)
				if got := checkShardRead(t, f.name, b, 0); got != wantShardOk(s) {
					t.Errorf("%s: ShardRead of the encoding of %s is %v", f.name, brief(s), got)
				}
			}
		}
	}
}

// TestEveryNumberOfAShardExchanged puts numbers of any size at every place of a shard, where they change all sums behind it.
func TestEveryNumberOfAShardExchanged(t *testing.T) {
	all := append(numbers()[:160], impl.MaxNum+1, 1<<48+5, 1<<56, math.MaxInt)
	for _, s := range []impl.Shard{row(0, 9, 3, 2), row(3, 150, 4, 1), shard(40, 42, sedge(7, 41, 9, 300, 0), sedge(7, 40, 9, 301, 0), sedge(9, 41, 9, 2, 0))} {
		pieces := piecesOf(s)
		for at := range pieces {
			for _, x := range all {
				other := slices.Clone(pieces)
				other[at] = wantVar(x)
				b := bytes.Join(other, nil)
				checkShardRead(t, "a number exchanged", b, 0)
				checkShardRead(t, "a number exchanged", append(bytes.Repeat([]byte{1}, 3), append(b, bytes.Repeat([]byte{0, 1}, 900)...)...), 3)
			}
		}
	}
}

func TestNumbersNotInTheirShortestEncoding(t *testing.T) {
	for _, s := range []impl.Shard{shard(0, 1), shard(140, 150), row(0, 9, 3, 2), row(3, 150, 4, 1), row(0, 150, 400, 3)} {
		pieces := piecesOf(s)
		for at := 0; at < len(pieces); at += 1 + len(pieces)/30 {
			for zeros := 1; zeros <= 9; zeros++ {
				longer := slices.Clone(pieces[at])
				longer[len(longer)-1] |= 128
				longer = append(longer, append(bytes.Repeat([]byte{128}, zeros-1), 0)...)
				other := slices.Clone(pieces)
				other[at] = longer
				checkRefused(t, "a longer encoding", bytes.Join(other, nil))
			}
		}
	}
	for _, l := range [][]int{nil, {7}, upTo(127, 1), upTo(128, 1), upTo(400, 1)} {
		b, size := wantListBytes(l), len(wantVar(len(l)))
		for zeros := 1; zeros <= 9; zeros++ {
			longer := slices.Clone(b[:size])
			longer[size-1] |= 128
			longer = slices.Concat(longer, bytes.Repeat([]byte{128}, zeros-1), []byte{0}, b[size:])
			if checkListRead(t, "a longer encoding", longer, 0) {
				t.Errorf("%s is an encoding", brief(longer))
			}
		}
	}
}

func TestShardCounts(t *testing.T) {
	counts := []int{0, 1, 2, 127, 128, 255, 256, 398, 399, 400, 401, 402, 800, 1 << 16, 1 << 32, 1<<32 + 3, 1<<48 - 1, 1 << 48, math.MaxInt}
	for _, m := range []int{0, 1, 2, 3, 399, 400, 401, 402} {
		pieces := piecesOf(row(0, 1, m, 500))
		for _, count := range append(counts, m-1, m, m+1) {
			if count < 0 {
				continue
			}
			other := slices.Clone(pieces)
			other[2] = wantVar(count)
			got := checkShardRead(t, "a count exchanged", bytes.Join(other, nil), 0)
			if want := count <= min(m, 400); got != want {
				t.Errorf("the count %d with %d edges is read: %v", count, m, got)
			}
		}
	}
	// The bytes behind are differences of 0, which would do for any number of edges if they had not all the same place.
	for _, count := range counts {
		checkShardRead(t, "a count and zeros", slices.Concat([]byte{0, 1}, wantVar(count), make([]byte, 2000)), 0)
		checkListRead(t, "a count and zeros", slices.Concat(wantVar(count), make([]byte, 2500)), 0)
		checkListRead(t, "a count and nothing", wantVar(count), 0)
	}
}

// TestSumsOfDifferences adds up differences until they are beyond every field, and partly back again.
func TestSumsOfDifferences(t *testing.T) {
	low, high := wantZig(leastZig), wantZig(mostZig)
	great := wantVar(impl.MaxNum)
	step := [][]byte{wantVar(1), wantZig(0), wantVar(5), wantZig(1)}
	for _, m := range []int{1, 2, 3, 63, 64, 127, 256, 400} {
		for field, most := range []int{0: 1, 1: 2, 3: 2} {
			for way := range most {
				b := slices.Concat([]byte{0, 150}, []byte{1}, wantVar(m))
				for range m {
					edge := slices.Clone(step)
					edge[field] = [][]byte{high, low}[way]
					if field == 0 {
						edge[0] = great
					}
					b = append(b, bytes.Join(edge, nil)...)
				}
				checkRefused(t, "sums in one direction", b)
			}
		}
	}
	for _, field := range []int{1, 3} {
		for _, pair := range [][2][]byte{{high, low}, {low, high}, {wantZig(1000), wantZig(-1000)}, {wantZig(-7), wantZig(7)}} {
			b := []byte{0, 150, 1, 4}
			for i := range 4 {
				edge := slices.Clone(step)
				edge[field] = pair[i%2]
				b = append(b, bytes.Join(edge, nil)...)
			}
			checkRefused(t, "sums that return", b)
		}
	}
}

func TestReadOffsets(t *testing.T) {
	s, l := wantShardBytes(row(0, 9, 5, 2)), wantListBytes([]int{0, 7, 1 << 40})
	for _, r := range readings() {
		for _, b := range [][]byte{nil, {}, {0}, {0, 1, 0}, s, l, slices.Concat(s, s, s), slices.Concat(l, l, l), bytes.Repeat([]byte{0, 1}, 50)} {
			size := len(b)
			for at := range size {
				r.read(t, "an offset", b, at)
			}
			for _, at := range []int{
				math.MinInt, math.MinInt + 1, math.MinInt + size, -1 << 32, -size - 1, -size, -2, -1,
				size, size + 1, size + 2, 2*size + 1, 1 << 32, 1<<32 + size, math.MaxInt - size, math.MaxInt - 6, math.MaxInt - 1, math.MaxInt,
			} {
				if r.read(t, "no offset", b, at) {
					t.Errorf("%s(%s, %d): something is encoded there", r.name, brief(b), at)
				}
			}
		}
	}
}

func TestSequencesOfShardsAndLists(t *testing.T) {
	r := rand.New(rand.NewSource(45))
	for range 200 {
		n := 1 + r.Intn(150)
		g := randomGraph(r, n, r.Intn(60))
		row := wantShards(g, randomEnds(r, n, 1+r.Intn(20)), 1)
		var b []byte
		for _, s := range row {
			one, _ := impl.ShardBytes(s)
			list, _ := impl.ListBytes([]int{s.Lo, len(s.Edges)})
			b = slices.Concat(b, one, list)
		}
		at := 0
		for i, want := range row {
			s, next, ok := impl.ShardRead(b, at)
			l, end, fine := impl.ListRead(b, next)
			if !ok || !fine || !sameShard(s, want) || !slices.Equal(l, []int{want.Lo, len(want.Edges)}) {
				t.Fatalf("shard %d at %d of %s is %s, %v, and the list behind it %v, %v", i, at, brief(b), brief(s), ok, l, fine)
			}
			at = end
		}
		if at != len(b) {
			t.Errorf("%d shards and lists end at %d of %d", len(row), at, len(b))
		}
	}
}

func TestListBytesKnown(t *testing.T) {
	for _, c := range []struct {
		l    []int
		want []byte
	}{
		{nil, []byte{0}},
		{[]int{}, []byte{0}},
		{[]int{0}, []byte{1, 0, 0, 0, 0, 0, 0}},
		{[]int{1, 256}, []byte{2, 0, 0, 0, 0, 0, 1, 0, 0, 0, 0, 1, 0}},
		{[]int{impl.MaxNum}, []byte{1, 255, 255, 255, 255, 255, 255}},
		{[]int{1108152157446, 0}, []byte{2, 1, 2, 3, 4, 5, 6, 0, 0, 0, 0, 0, 0}},
		{make([]int, 400), append([]byte{144, 3}, make([]byte, 2400)...)},
	} {
		if b := checkListKept(t, "a known list", c.l); !bytes.Equal(b, c.want) {
			t.Errorf("ListBytes(%s) = %s, want %s", brief(c.l), brief(b), brief(c.want))
		}
		lists().cut(t, "a known list", c.want)
		lists().changed(t, "a known list", c.want, 1+len(c.want)/20, everyMask...)
	}
}

func TestListsOfEveryLength(t *testing.T) {
	all := numbers()
	r := rand.New(rand.NewSource(46))
	for m := range 411 {
		l := make([]int, m)
		for i := range l {
			l[i] = anyOf(r, all)
		}
		if m <= 400 {
			b := checkListKept(t, "a length", l)
			lists().changed(t, "a length", b, 1+len(b)/9, 1, 128, 255)
			continue
		}
		for _, list := range [][]int{l, make([]int, m)} {
			if b, ok := impl.ListBytes(list); b != nil || ok {
				t.Errorf("ListBytes of %d elements = %s, %v", m, brief(b), ok)
			}
			if checkListRead(t, "a length beyond the greatest", wantListBytes(list), 0) {
				t.Errorf("a list of %d elements is read", m)
			}
		}
	}
	for _, m := range []int{512, 1000, 65536, 65537, 70000} {
		if b, ok := impl.ListBytes(make([]int, m)); b != nil || ok {
			t.Errorf("ListBytes of %d elements = %s, %v", m, brief(b), ok)
		}
		checkListRead(t, "a length beyond the greatest", wantListBytes(make([]int, m)), 0)
	}
}

func TestTruncatedLists(t *testing.T) {
	for _, m := range []int{1, 2, 3, 127, 128, 400} {
		lists().cut(t, "a truncated list", wantListBytes(upTo(m, 1)))
	}
}

func TestListElementsAtTheirLimits(t *testing.T) {
	for _, m := range []int{1, 2, 3, 100, 399, 400} {
		for _, at := range []int{0, m / 2, m - 1} {
			for _, x := range numbers()[:60] {
				l := upTo(m, 1)
				l[at] = x
				checkListKept(t, "an element", l)
			}
			for _, x := range notNumbers {
				l := upTo(m, 1)
				l[at] = x
				if b, ok := impl.ListBytes(l); b != nil || ok {
					t.Errorf("ListBytes with the element %d at %d of %d = %s, %v", x, at, m, brief(b), ok)
				}
			}
		}
	}
}

// TestReadsOfEveryShortText reads everything that consists of a few bytes with a meaning.
func TestReadsOfEveryShortText(t *testing.T) {
	some := []byte{0, 1, 2, 3, 4, 127, 128, 129, 255}
	count := 0
	var try func(b []byte, size int)
	try = func(b []byte, size int) {
		if size == 0 {
			if checkShardRead(t, "a short text", b, 0) {
				count++
			}
			checkListRead(t, "a short text", b, 0)
			return
		}
		for _, x := range some {
			try(append(slices.Clone(b), x), size-1)
		}
	}
	for size := range 6 {
		try(nil, size)
	}
	if count == 0 {
		t.Error("no short text is a shard")
	}
	some = some[:4]
	for size := 7; size <= 8; size++ {
		try([]byte{2}, size-1)
	}
}

// exchanged changes a few bytes, or takes some out, or puts some in.
func exchanged(r *rand.Rand, b []byte) []byte {
	b = bytes.Clone(b)
	for range 1 + r.Intn(3) {
		at := r.Intn(len(b) + 1)
		switch r.Intn(4) {
		case 0:
			b = slices.Insert(b, at, byte(r.Intn(256)))
		case 1:
			b = slices.Delete(b, at, min(at+1+r.Intn(3), len(b)))
		case 2:
			if at < len(b) {
				b[at] = byte(r.Intn(256))
			}
		default:
			if at < len(b) {
				b[at] += byte(r.Intn(5) - 2)
			}
		}
	}
	return b
}

func TestReadsOfAnyBytes(t *testing.T) {
	r := rand.New(rand.NewSource(47))
	count := map[bool]int{}
	for range 60000 {
		n := 1 + r.Intn(6)
		s := wantShards(randomGraph(r, n, r.Intn(6)), []int{n}, 1)[0]
		b := exchanged(r, wantShardBytes(s))
		count[checkShardRead(t, "any bytes", b, 0)]++
		at := r.Intn(len(b)+3) - 1
		checkShardRead(t, "any bytes", b, at)
		b = exchanged(r, wantListBytes(upTo(r.Intn(4), 1)))
		count[checkListRead(t, "any bytes", b, 0)]++
		checkListRead(t, "any bytes", b, at)
	}
	if count[true] < 5000 || count[false] < 5000 {
		t.Errorf("read or not: %v", count)
	}
}

func checkWithVals(t *testing.T, what string, s impl.Shard, vals []int, want bool) {
	t.Helper()
	got, ok := impl.WithVals(s, vals)
	model, modelOk := wantWithVals(s, vals)
	if !sameShard(got, model) || ok != want || modelOk != want {
		t.Errorf("%s: WithVals(%s, %s) = %s, %v, want %s, %v (by the model %v)", what, brief(s), brief(vals), brief(got), ok, brief(model), want, modelOk)
	}
	if ok && !impl.ShardOk(got) {
		t.Errorf("%s: WithVals(%s, %s) is not valid: %s", what, brief(s), brief(vals), brief(got))
	}
}

func TestWithValsKnown(t *testing.T) {
	s := shard(2, 5, sedge(1, 4, 7, 3, 9), sedge(1, 2, 0, 5, 0), sedge(6, 2, 0, 0, 8))
	valued := shard(2, 5, sedge(1, 4, 7, 3, 13), sedge(1, 2, 0, 5, 15), sedge(6, 2, 0, 0, 10))
	for _, c := range []struct {
		what string
		s    impl.Shard
		vals []int
		want impl.Shard
		ok   bool
	}{
		{"as many values as the greatest Index needs", s, []int{10, 11, 12, 13, 14, 15}, valued, true},
		{"more values", s, []int{10, 11, 12, 13, 14, 15, 16, 17}, valued, true},
		{"one value less", s, []int{10, 11, 12, 13, 14}, impl.Shard{}, false},
		{"few values", s, []int{10}, impl.Shard{}, false},
		{"no values", s, nil, impl.Shard{}, false},
		{"one edge, no values", shard(0, 1, sedge(0, 0, 0, 0, 5)), []int{}, impl.Shard{}, false},
		{"one edge, one value", shard(0, 1, sedge(0, 0, 0, 0, 5)), []int{6}, shard(0, 1, sedge(0, 0, 0, 0, 6)), true},
		{"a value of 0", shard(0, 1, sedge(0, 0, 0, 0, 5)), []int{0}, shard(0, 1, sedge(0, 0, 0, 0, 0)), true},
		{"the greatest number", shard(0, 1, sedge(0, 0, 0, 0, 5)), []int{impl.MaxNum}, shard(0, 1, sedge(0, 0, 0, 0, impl.MaxNum)), true},
		{"one beyond the greatest number", shard(0, 1, sedge(0, 0, 0, 0, 5)), []int{impl.MaxNum + 1}, impl.Shard{}, false},
		{"a negative value", shard(0, 1, sedge(0, 0, 0, 0, 5)), []int{-1}, impl.Shard{}, false},
		{"no edges, no values", shard(3, 9), nil, shard(3, 9), true},
		{"no edges, empty values", shard(3, 9), []int{}, shard(3, 9), true},
		{"no edges, some values", shard(3, 9), []int{1, 2}, shard(3, 9), true},
		{"no shard, no values", impl.Shard{}, nil, impl.Shard{}, false},
		{"one Index at two places", shard(0, 1, sedge(0, 0, 0, 1, 5), sedge(2, 0, 0, 1, 6)), []int{7, 8}, shard(0, 1, sedge(0, 0, 0, 1, 8), sedge(2, 0, 0, 1, 8)), true},
	} {
		checkWithVals(t, c.what, c.s, c.vals, c.ok)
		if got, ok := impl.WithVals(c.s, c.vals); !sameShard(got, c.want) || ok != c.ok {
			t.Errorf("%s: WithVals(%s, %v) = %s, %v, want %s, %v", c.what, brief(c.s), c.vals, brief(got), ok, brief(c.want), c.ok)
		}
	}
}

func TestEveryNumberOfValues(t *testing.T) {
	for _, m := range []int{1, 2, 50, 399, 400} {
		for _, index := range []int{0, 1, 49, 398, 399} {
			s := row(0, 9, m, 3)
			for i := range s.Edges {
				s.Edges[i].Index = min(s.Edges[i].Index, index)
			}
			s.Edges[m-1].Index = index
			if !wantShardOk(s) {
				s = shard(0, 9, sedge(3, 3, 3, index, 3))
			}
			for count := range 403 {
				if count > 3 && count < index-3 {
					continue
				}
				checkWithVals(t, strconv.Itoa(count)+" values", s, upTo(count, 1), count > index)
			}
		}
	}
}

// TestValuesThatAreNotNumbers has a value that is none at every place, where only that of an Index that occurs counts.
func TestValuesThatAreNotNumbers(t *testing.T) {
	s := shard(0, 9, sedge(0, 3, 1, 7, 1), sedge(2, 8, 1, 0, 2), sedge(2, 0, 1, 4, 3), sedge(8, 0, 0, 9, 4))
	for at := range 12 {
		for _, x := range append([]int{0, 1, impl.MaxNum - 1, impl.MaxNum}, notNumbers...) {
			vals := []int{20, 21, 22, 23, 24, 25, 26, 27, 28, 29, 30, 31}
			vals[at] = x
			used := slices.Contains([]int{0, 4, 7, 9}, at)
			checkWithVals(t, "a value at "+strconv.Itoa(at), s, vals, !used || within(x, 1<<48-1))
		}
	}
	for _, x := range notNumbers {
		checkWithVals(t, "no edges", shard(0, 9), []int{x, x}, true)
		full := row(0, 9, 400, 3)
		for _, at := range []int{0, 1, 200, 398, 399, 400} {
			vals := upTo(401, 1)
			vals[at] = x
			checkWithVals(t, "all edges", full, vals, at == 400)
		}
	}
}

func TestAnyValues(t *testing.T) {
	r := rand.New(rand.NewSource(48))
	some := append([]int{0, 1, 2, impl.MaxNum}, numbers()[:40]...)
	count := map[bool]int{}
	for range 20000 {
		n := 1 + r.Intn(9)
		l := wantShards(randomGraph(r, n, r.Intn(12)), randomEnds(r, n, 2), 1)
		vals := make([]int, r.Intn(14))
		for i := range vals {
			vals[i] = anyOf(r, some)
			if r.Intn(40) == 0 {
				vals[i] = anyOf(r, notNumbers)
			}
		}
		if r.Intn(3) == 0 {
			_, l = spoil(r, n, l)
		}
		for _, s := range l {
			_, want := wantWithVals(s, vals)
			checkWithVals(t, "any values", s, vals, want)
			count[want]++
			b, ok := impl.ShardBytes(s)
			if want := wantShardOk(s); ok != want || !want && b != nil || want && !bytes.Equal(b, wantShardBytes(s)) {
				t.Errorf("ShardBytes(%s) = %s, %v", brief(s), brief(b), ok)
			}
		}
	}
	if count[true] < 5000 || count[false] < 5000 {
		t.Errorf("with values or not: %v", count)
	}
}

func TestPackArgumentsStayAsTheyAre(t *testing.T) {
	l := append(badShards(), row(0, 40, 10, 1), row(3, 9, 400, 3), shard(4, 5))
	for _, s := range l {
		lent, room, kept := lendSEdges(s)
		for _, vals := range [][]int{nil, {1, 2, -1}, upTo(9, 1), upTo(400, 1)} {
			roomy := append(slices.Clone(vals), 6, 7, -8)
			keptVals := slices.Clone(roomy)
			b, _ := impl.ShardBytes(lent)
			fill(b, 99)
			got, _ := impl.WithVals(lent, roomy[:len(vals)])
			fillSEdges(got.Edges, 98)
			b, _ = impl.ListBytes(roomy[:len(vals)])
			fill(b, 97)
			if !sameShard(lent, s) || !slices.Equal(room, kept) || !slices.Equal(roomy, keptVals) {
				t.Errorf("%s or %s is changed: %s, %s", brief(s), brief(vals), brief(room), brief(roomy))
			}
		}
	}
	for _, b := range [][]byte{nil, {0, 1, 0}, wantShardBytes(row(3, 9, 40, 3)), wantListBytes(upTo(40, 1)), {128}, {2, 1}} {
		room := append(bytes.Clone(b), 1, 2, 3, 255)
		kept := bytes.Clone(room)
		for at := -1; at <= len(b)+1; at++ {
			s, _, _ := impl.ShardRead(room[:len(b)], at)
			fillSEdges(s.Edges, 96)
			l, _, _ := impl.ListRead(room[:len(b)], at)
			fillInts(l, 95)
		}
		if !bytes.Equal(room, kept) {
			t.Errorf("%s became %s", brief(kept), brief(room))
		}
	}
}

func lendSEdges(s impl.Shard) (lent impl.Shard, room, kept []impl.SEdge) {
	room = append(slices.Clone(s.Edges), sedge(9, 8, 7, 6, 5), sedge(-1, -2, -3, -4, -5), sedge(0, 0, 0, 0, 0))
	return impl.Shard{Lo: s.Lo, Hi: s.Hi, Edges: room[:len(s.Edges)]}, room, slices.Clone(room)
}

// TestPackedResultsAreNewMemory fills one result, and then looks at another one of the same arguments.
func TestPackedResultsAreNewMemory(t *testing.T) {
	for _, s := range []impl.Shard{shard(4, 5), row(0, 40, 10, 1), row(3, 9, 400, 3)} {
		vals := upTo(400, 1)
		valued, _ := wantWithVals(s, vals)
		want, list := wantShardBytes(s), wantListBytes(vals)
		for range 3 {
			b, _ := impl.ShardBytes(s)
			fill(b, 94)
			fromBytes, _, _ := impl.ShardRead(want, 0)
			fillSEdges(fromBytes.Edges, 93)
			withVals, _ := impl.WithVals(s, vals)
			fillSEdges(withVals.Edges, 92)
			c, _ := impl.ListBytes(vals)
			fill(c, 91)
			l, _, _ := impl.ListRead(list, 0)
			fillInts(l, 90)
		}
		b, _ := impl.ShardBytes(s)
		fromBytes, _, _ := impl.ShardRead(want, 0)
		withVals, _ := impl.WithVals(s, vals)
		c, _ := impl.ListBytes(vals)
		l, _, _ := impl.ListRead(list, 0)
		if !bytes.Equal(b, want) || !sameShard(fromBytes, withoutVals(s)) || !sameShard(withVals, valued) || !bytes.Equal(c, list) || !slices.Equal(l, vals) {
			t.Errorf("a result for %s was changed through another one", brief(s))
		}
	}
}
