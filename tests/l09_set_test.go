package tests

import (
	"bytes"
	"math"
	"math/big"
	"math/rand"
	"slices"
	"testing"

	"loop.example/g00671/impl"
)

func set(n int, bits ...byte) impl.Set { return impl.Set{N: n, Bits: bits} }

func sameSet(a, b impl.Set) bool { return a.N == b.N && bytes.Equal(a.Bits, b.Bits) }

func everyVertex(int) bool { return true }

// verticesOf are those of the n vertices that are to be kept.
func verticesOf(n int, keep func(v int) bool) []int {
	var l []int
	for v := range n {
		if keep(v) {
			l = append(l, v)
		}
	}
	return l
}

// numberOf takes the bytes for one great number, in which bit v has the weight 2^v.
func numberOf(s impl.Set) *big.Int {
	b := bytes.Clone(s.Bits)
	slices.Reverse(b)
	return new(big.Int).SetBytes(b)
}

// wantSet is the set of n vertices with these members.
func wantSet(n int, members ...int) impl.Set {
	x := new(big.Int)
	for _, v := range members {
		x.SetBit(x, v, 1)
	}
	b := x.FillBytes(make([]byte, (n+7)/8))
	slices.Reverse(b)
	return impl.Set{N: n, Bits: b}
}

func wantSetOk(s impl.Set) bool {
	spare := len(s.Bits)*8 - s.N
	return within(s.N, 150) && within(spare, 7) && numberOf(s).BitLen() <= s.N
}

func wantMembers(s impl.Set) []int {
	if !wantSetOk(s) {
		return nil
	}
	x := numberOf(s)
	return verticesOf(s.N, func(v int) bool { return x.Bit(v) == 1 })
}

func wantHas(s impl.Set, v int) bool { return slices.Contains(wantMembers(s), v) }

func wantWith(s impl.Set, v int) impl.Set {
	if !wantSetOk(s) {
		return impl.Set{}
	}
	l := wantMembers(s)
	if within(v, s.N-1) {
		l = append(l, v)
	}
	return wantSet(s.N, l...)
}

func wantWithout(s impl.Set, v int) impl.Set {
	if !wantSetOk(s) {
		return impl.Set{}
	}
	return wantSet(s.N, slices.DeleteFunc(wantMembers(s), func(u int) bool { return u == v })...)
}

func wantEither(a, b impl.Set) (impl.Set, bool) {
	if !wantSetOk(a) || !wantSetOk(b) || a.N != b.N {
		return impl.Set{}, false
	}
	return wantSet(a.N, slices.Concat(wantMembers(a), wantMembers(b))...), true
}

func wantDigest(s impl.Set) int {
	if !wantSetOk(s) {
		return -1
	}
	return sumOf(slices.Concat(wantVar(s.N), s.Bits))
}

func checkSetOk(t *testing.T, what string, s impl.Set, want bool) {
	t.Helper()
	if got, model := impl.SetOk(s), wantSetOk(s); got != want || model != want {
		t.Errorf("%s: SetOk(%s) = %v, want %v (by the model %v)", what, brief(s), got, want, model)
	}
}

func checkSetNew(t *testing.T, n int, all bool, want impl.Set, wantOk bool) {
	t.Helper()
	if s, ok := impl.SetNew(n, all); !sameSet(s, want) || ok != wantOk {
		t.Errorf("SetNew(%d, %v) = %s, %v, want %s, %v", n, all, brief(s), ok, brief(want), wantOk)
	}
}

// checkSetAt calls the functions that take a vertex, whether it is one of s or not.
func checkSetAt(t *testing.T, what string, s impl.Set, v int) {
	t.Helper()
	if got, want := impl.Has(s, v), wantHas(s, v); got != want {
		t.Errorf("%s: Has(%s, %d) = %v, want %v", what, brief(s), v, got, want)
	}
	if got, want := impl.With(s, v), wantWith(s, v); !sameSet(got, want) {
		t.Errorf("%s: With(%s, %d) = %s, want %s", what, brief(s), v, brief(got), brief(want))
	}
	if got, want := impl.Without(s, v), wantWithout(s, v); !sameSet(got, want) {
		t.Errorf("%s: Without(%s, %d) = %s, want %s", what, brief(s), v, brief(got), brief(want))
	}
}

// checkSet calls the functions that take nothing but a set, which may be one that is not valid.
func checkSet(t *testing.T, what string, s impl.Set) {
	t.Helper()
	checkSetOk(t, what, s, wantSetOk(s))
	if got, want := impl.Members(s), wantMembers(s); !slices.Equal(got, want) {
		t.Errorf("%s: Members(%s) = %s, want %s", what, brief(s), brief(got), brief(want))
	}
	if got, want := impl.Digest(s), wantDigest(s); got != want {
		t.Errorf("%s: Digest(%s) = %d, want %d", what, brief(s), got, want)
	}
}

func checkEither(t *testing.T, what string, a, b impl.Set, want bool) {
	t.Helper()
	got, ok := impl.Either(a, b)
	if model, modelOk := wantEither(a, b); !sameSet(got, model) || ok != want || modelOk != want {
		t.Errorf("%s: Either(%s, %s) = %s, %v, want %s, %v (by the model %v)", what, brief(a), brief(b), brief(got), ok, brief(model), want, modelOk)
	}
}

// notVertices are ints that are no vertices of n, among them those whose bits the last byte has room for.
func notVertices(n int) []int {
	l := []int{
		math.MinInt, math.MinInt + 1, -1 << 32, 1<<32 - 1, 1 << 32, 1<<32 + n - 1, math.MaxInt - 7, math.MaxInt - 1, math.MaxInt,
		-256, -150, -n - 1, -n, -9, -8, -7, -2, -1, n, n + 1, n + 7, n + 8, n + 255, n + 256, 149, 150, 151, 152, 159, 160, 256,
	}
	for v := n; v < (n+7)/8*8; v++ {
		l = append(l, v)
	}
	return slices.DeleteFunc(l, func(v int) bool { return within(v, n-1) })
}

var notSetSizes = []int{math.MinInt, math.MinInt + 7, -1 << 32, -1<<32 + 8, -150, -16, -15, -14, -8, -7, -1, 151, 152, 153, 159, 160, 161, 255, 256, 264, 1 << 16, 1 << 32, 1<<32 + 8, 1<<32 + 150, math.MaxInt - 7, math.MaxInt - 6, math.MaxInt}

// badSets have an N, a number of bytes or a bit that no set has.
func badSets() []impl.Set {
	l := []impl.Set{
		set(1), set(8), set(9, 0), set(16, 0), set(17, 0, 0), set(149, make([]byte, 18)...), set(150, make([]byte, 18)...), set(150),
		set(0, 0), set(1, 0, 0), set(8, 0, 0), set(9, 0, 0, 0), set(16, 0, 0, 0), set(150, make([]byte, 20)...), set(8, make([]byte, 257)...), set(150, make([]byte, 275)...),
		set(0, 1), set(0, 255), set(8, 0, 1), set(8, 255, 255), set(8, 0, 128), set(16, 0, 0, 1), set(16, 1),
		set(1, 2), set(1, 128), set(1, 255), set(7, 128), set(7, 255), set(9, 0, 2), set(9, 255, 255), set(10, 0, 4), set(15, 0, 128), set(17, 0, 0, 2),
		set(149, append(make([]byte, 18), 32)...), set(150, append(make([]byte, 18), 64)...), set(150, append(make([]byte, 18), 128)...), set(150, bytes.Repeat([]byte{255}, 19)...),
	}
	for _, n := range notSetSizes {
		for _, size := range []int{0, 1, 2, 18, 19, 20, 21, 32, 33} {
			l = append(l, set(n, make([]byte, size)...))
		}
	}
	return l
}

// setsOf are some sets of n vertices, more of them where the bytes begin and end.
func setsOf(r *rand.Rand, n int) []impl.Set {
	l := []impl.Set{wantSet(n), wantSet(n, verticesOf(n, everyVertex)...), someOf(r, n, 2)}
	if n == 0 || n%8 > 1 && n%8 < 7 && n < 149 {
		return l
	}
	for _, keep := range []func(v int) bool{
		func(v int) bool { return v%2 == 0 },
		func(v int) bool { return v%2 == 1 },
		func(v int) bool { return v == 0 },
		func(v int) bool { return v == n-1 },
		func(v int) bool { return v%8 == 7 },
		func(v int) bool { return v != n/2 },
	} {
		l = append(l, wantSet(n, verticesOf(n, keep)...))
	}
	return append(l, someOf(r, n, 10), someOf(r, n, 40))
}

// someOf contains about one of so many vertices.
func someOf(r *rand.Rand, n, odds int) impl.Set {
	return wantSet(n, verticesOf(n, func(int) bool { return r.Intn(odds) == 0 })...)
}

// everySet calls check with every set of n vertices, for n from 0 to most, and with its members.
func everySet(most int, check func(s impl.Set, members []int)) {
	for n := range most + 1 {
		for x := range 1 << n {
			l := verticesOf(n, func(v int) bool { return x>>v%2 == 1 })
			check(wantSet(n, l...), l)
		}
	}
}

// membersByHas asks for every vertex.
func membersByHas(s impl.Set) []int {
	return verticesOf(s.N, func(v int) bool { return impl.Has(s, v) })
}

// checkAdded checks the promise P9 for a vertex of s, given the members of s.
func checkAdded(t *testing.T, s impl.Set, members []int, v int) {
	t.Helper()
	others := slices.DeleteFunc(slices.Clone(members), func(u int) bool { return u == v })
	added := append(slices.Clone(others), v)
	slices.Sort(added)
	for i, after := range []impl.Set{impl.With(s, v), impl.Without(s, v)} {
		want := [][]int{added, others}[i]
		if after.N != s.N || !impl.SetOk(after) || !wantSetOk(after) || !slices.Equal(membersByHas(after), want) || !slices.Equal(impl.Members(after), want) {
			t.Errorf("With or Without(%s, %d) = %s, with the members %s, want %s", brief(s), v, brief(after), brief(impl.Members(after)), brief(want))
		}
	}
}

func checkEveryVertex(t *testing.T, s impl.Set, members []int) {
	t.Helper()
	if !slices.Equal(membersByHas(s), members) || !slices.Equal(impl.Members(s), members) {
		t.Errorf("%s has the members %s, want %s", brief(s), brief(impl.Members(s)), brief(members))
	}
	for v := range s.N {
		checkAdded(t, s, members, v)
	}
}

func TestVerticesAreAddedAndRemoved(t *testing.T) {
	r := rand.New(rand.NewSource(51))
	for n := range 151 {
		for _, s := range setsOf(r, n) {
			checkEveryVertex(t, s, wantMembers(s))
			checkSet(t, "some set", s)
		}
	}
}

func TestEverySmallSet(t *testing.T) {
	everySet(10, func(s impl.Set, members []int) {
		checkEveryVertex(t, s, members)
		checkSet(t, "a small set", s)
		for _, v := range []int{-1, 0, 1, s.N - 1, s.N, s.N + 1, 7, 8, 15, 16} {
			checkSetAt(t, "a small set", s, v)
		}
	})
}

// TestVerticesAddedInAnyOrder adds to an empty set, and removes from a full one, until nothing is left to do.
func TestVerticesAddedInAnyOrder(t *testing.T) {
	r := rand.New(rand.NewSource(52))
	for _, n := range []int{0, 1, 7, 8, 9, 15, 16, 17, 64, 100, 149, 150} {
		none, _ := impl.SetNew(n, false)
		all, _ := impl.SetNew(n, true)
		grows, shrinks := none, all
		var added []int
		for _, v := range r.Perm(n) {
			added = append(added, v)
			grows, shrinks = impl.With(grows, v), impl.Without(shrinks, v)
			both, ok := impl.Either(grows, shrinks)
			if !sameSet(grows, wantSet(n, added...)) || len(impl.Members(shrinks)) != n-len(added) || !ok || !sameSet(both, all) {
				t.Fatalf("with %v of %d: %s and %s, and both %s, %v", added, n, brief(grows), brief(shrinks), brief(both), ok)
			}
		}
		if !sameSet(grows, all) || !sameSet(shrinks, none) {
			t.Errorf("with all and without all of %d: %s and %s", n, brief(grows), brief(shrinks))
		}
	}
}

func TestSetOkKnown(t *testing.T) {
	for _, s := range []impl.Set{
		{}, set(0), set(0, []byte{}...), set(1, 0), set(1, 1), set(2, 3), set(7, 0), set(7, 127), set(8, 0), set(8, 255), set(8, 128), set(9, 255, 0), set(9, 255, 1), set(10, 4, 2),
		set(15, 255, 127), set(16, 255, 255), set(16, 0, 128), set(17, 255, 255, 1), set(149, append(bytes.Repeat([]byte{255}, 18), 31)...), set(150, append(bytes.Repeat([]byte{255}, 18), 63)...),
	} {
		checkSetOk(t, "a valid set", s, true)
		checkSet(t, "a valid set", s)
	}
	for _, s := range badSets() {
		checkSetOk(t, "a set that is not valid", s, false)
		checkSet(t, "a set that is not valid", s)
	}
}

func TestNumbersOfBytes(t *testing.T) {
	for n := range 151 {
		for _, size := range append(upTo(40, 1), 0, (n+7)/8+256, 1<<16, 1<<16+(n+7)/8) {
			checkSetOk(t, "a number of bytes", set(n, make([]byte, size)...), size*8 >= n && size*8 < n+8)
		}
	}
}

// TestBitsBeyondTheVertices has one bit set that stands for no vertex, in the last byte or in one byte too many.
func TestBitsBeyondTheVertices(t *testing.T) {
	r := rand.New(rand.NewSource(53))
	for n := range 151 {
		for _, s := range setsOf(r, n) {
			for v := n; v < (n+7)/8*8+8; v++ {
				x := numberOf(s)
				x.SetBit(x, v, 1)
				b := x.FillBytes(make([]byte, v/8+1))
				slices.Reverse(b)
				checkSetOk(t, "a bit beyond", set(n, b...), false)
				if v == n || v%8 == 7 {
					checkSet(t, "a bit beyond", set(n, b...))
					checkSetAt(t, "a bit beyond", set(n, b...), v)
					checkSetAt(t, "a bit beyond", set(n, b...), n-1)
				}
			}
		}
	}
}

func TestSetNewKnown(t *testing.T) {
	for n, last := range map[int]byte{1: 1, 2: 3, 3: 7, 4: 15, 5: 31, 6: 63, 7: 127, 8: 255, 9: 1, 15: 127, 16: 255, 17: 1, 144: 255, 145: 1, 149: 31, 150: 63} {
		size := (n + 7) / 8
		full := bytes.Repeat([]byte{255}, size)
		full[size-1] = last
		checkSetNew(t, n, true, set(n, full...), true)
		checkSetNew(t, n, false, set(n, make([]byte, size)...), true)
	}
	for _, all := range []bool{false, true} {
		checkSetNew(t, 0, all, impl.Set{}, true)
		for _, n := range notSetSizes {
			checkSetNew(t, n, all, impl.Set{}, false)
		}
	}
	for n := range 151 {
		none, _ := impl.SetNew(n, false)
		all, _ := impl.SetNew(n, true)
		if !impl.SetOk(none) || !impl.SetOk(all) || len(impl.Members(none)) != 0 || len(impl.Members(all)) != n {
			t.Errorf("the new sets of %d vertices are %s and %s", n, brief(none), brief(all))
		}
	}
}

func TestSetsKnown(t *testing.T) {
	s := set(10, 4, 2)
	for v := range 10 {
		if has := impl.Has(s, v); has != (v == 2 || v == 9) {
			t.Errorf("Has(%s, %d) = %v", brief(s), v, has)
		}
	}
	for _, c := range []struct {
		what      string
		got, want impl.Set
	}{
		{"a vertex added", impl.With(s, 0), set(10, 5, 2)},
		{"the last vertex of a byte added", impl.With(s, 7), set(10, 132, 2)},
		{"the first vertex of a byte added", impl.With(s, 8), set(10, 4, 3)},
		{"a member added", impl.With(s, 9), set(10, 4, 2)},
		{"no vertex added", impl.With(s, 10), set(10, 4, 2)},
		{"no vertex added", impl.With(s, -1), set(10, 4, 2)},
		{"a member removed", impl.Without(s, 2), set(10, 0, 2)},
		{"the last vertex removed", impl.Without(s, 9), set(10, 4, 0)},
		{"a vertex that is no member removed", impl.Without(s, 3), set(10, 4, 2)},
		{"no vertex removed", impl.Without(s, 10), set(10, 4, 2)},
		{"no vertex removed", impl.Without(s, -1), set(10, 4, 2)},
		{"added to a set without vertices", impl.With(impl.Set{}, 0), impl.Set{}},
		{"removed from a set without vertices", impl.Without(impl.Set{}, 0), impl.Set{}},
		{"added to a set that is not valid", impl.With(set(10, 4, 4), 2), impl.Set{}},
		{"removed from a set that is not valid", impl.Without(set(10, 4, 4), 2), impl.Set{}},
	} {
		if !sameSet(c.got, c.want) {
			t.Errorf("%s: %s, want %s", c.what, brief(c.got), brief(c.want))
		}
	}
	for _, c := range []struct {
		s    impl.Set
		want []int
	}{
		{s, []int{2, 9}}, {impl.Set{}, nil}, {set(10, 0, 0), nil}, {set(3, 7), []int{0, 1, 2}}, {set(9, 129, 1), []int{0, 7, 8}}, {set(10, 4, 4), nil}, {set(-1), nil}, {set(10, 4), nil},
	} {
		if l := impl.Members(c.s); !slices.Equal(l, c.want) {
			t.Errorf("Members(%s) = %v, want %v", brief(c.s), l, c.want)
		}
	}
}

func TestVerticesOutOfRange(t *testing.T) {
	r := rand.New(rand.NewSource(54))
	for n := range 151 {
		for _, s := range setsOf(r, n) {
			for _, v := range notVertices(n) {
				if impl.Has(s, v) || !sameSet(impl.With(s, v), s) || !sameSet(impl.Without(s, v), s) {
					t.Errorf("%d is treated as a vertex of %s: %v, %s, %s", v, brief(s), impl.Has(s, v), brief(impl.With(s, v)), brief(impl.Without(s, v)))
				}
			}
			for _, v := range []int{0, n - 1, n, n / 2} {
				checkSetAt(t, "a vertex at an end", s, v)
			}
		}
	}
}

func TestSetsThatAreNotValidHaveNoMembers(t *testing.T) {
	for _, s := range badSets() {
		for _, v := range []int{math.MinInt, -1, 0, 1, 2, 7, 8, 9, 15, 16, 148, 149, 150, 151, s.N - 1, s.N, s.N + 1, math.MaxInt} {
			if impl.Has(s, v) || !sameSet(impl.With(s, v), impl.Set{}) || !sameSet(impl.Without(s, v), impl.Set{}) {
				t.Errorf("%s is treated as a set at %d: %v, %s, %s", brief(s), v, impl.Has(s, v), brief(impl.With(s, v)), brief(impl.Without(s, v)))
			}
		}
		if impl.Members(s) != nil || impl.Digest(s) != -1 {
			t.Errorf("%s has the members %v and the digest %d", brief(s), impl.Members(s), impl.Digest(s))
		}
		for _, other := range []impl.Set{{}, set(1, 1), set(8, 255), set(10, 4, 2), set(150, make([]byte, 19)...), s} {
			checkEither(t, "not valid on the left", s, other, false)
			checkEither(t, "not valid on the right", other, s, false)
		}
		if within(s.N, 150) {
			checkEither(t, "not valid on the left, of the same N", s, wantSet(s.N), false)
			checkEither(t, "not valid on the right, of the same N", wantSet(s.N), s, false)
		}
	}
}

func TestEitherKnown(t *testing.T) {
	for _, c := range []struct {
		what       string
		a, b, want impl.Set
		ok         bool
	}{
		{"no member in common", set(10, 4, 2), set(10, 1, 1), set(10, 5, 3), true},
		{"one member in common", set(10, 6, 2), set(10, 4, 0), set(10, 6, 2), true},
		{"the same set twice", set(10, 4, 2), set(10, 4, 2), set(10, 4, 2), true},
		{"one set empty", set(10, 0, 0), set(10, 4, 2), set(10, 4, 2), true},
		{"the other set empty", set(10, 4, 2), set(10, 0, 0), set(10, 4, 2), true},
		{"both sets without vertices", impl.Set{}, set(0, []byte{}...), impl.Set{}, true},
		{"another N", set(10, 4, 2), set(9, 4, 0), impl.Set{}, false},
		{"another N of the same bytes", set(10, 4, 0), set(9, 4, 0), impl.Set{}, false},
		{"another N of more bytes", set(8, 4), set(9, 4, 0), impl.Set{}, false},
		{"no vertices on the left", impl.Set{}, set(1, 1), impl.Set{}, false},
		{"no vertices on the right", set(1, 1), impl.Set{}, impl.Set{}, false},
		{"not valid on the left", set(10, 0, 4), set(10, 4, 2), impl.Set{}, false},
		{"not valid on the right", set(10, 4, 2), set(10, 0, 4), impl.Set{}, false},
		{"not valid twice", set(10, 0, 4), set(10, 0, 4), impl.Set{}, false},
		{"the same N that is none", set(151, make([]byte, 19)...), set(151, make([]byte, 19)...), impl.Set{}, false},
	} {
		checkEither(t, c.what, c.a, c.b, c.ok)
		if got, ok := impl.Either(c.a, c.b); !sameSet(got, c.want) || ok != c.ok {
			t.Errorf("%s: Either(%s, %s) = %s, %v, want %s, %v", c.what, brief(c.a), brief(c.b), brief(got), ok, brief(c.want), c.ok)
		}
	}
}

func TestEverySmallUnion(t *testing.T) {
	everySet(5, func(a impl.Set, _ []int) {
		everySet(5, func(b impl.Set, _ []int) {
			checkEither(t, "small sets", a, b, a.N == b.N)
		})
	})
}

func TestUnionsOfEverySize(t *testing.T) {
	r := rand.New(rand.NewSource(55))
	for n := range 151 {
		l := setsOf(r, n)
		for _, a := range l {
			for _, b := range l {
				checkEither(t, "some sets", a, b, true)
			}
			checkEither(t, "the very same set twice", a, a, true)
			for _, m := range []int{n - 8, n - 1, n + 1, n + 8, r.Intn(151)} {
				if within(m, 150) {
					checkEither(t, "sets that may differ in N", a, someOf(r, m, 2), n == m)
				}
			}
		}
	}
}

func TestDigestKnown(t *testing.T) {
	ones := func(size int, last byte) []byte { return append(bytes.Repeat([]byte{255}, size), last) }
	for _, c := range []struct {
		s    impl.Set
		want int
	}{
		{impl.Set{}, 3523407757}, {set(1, 0), 1489118142}, {set(1, 1), 801444648}, {set(8, 255), 2751625082}, {set(9, 255, 1), 347287417}, {set(10, 4, 2), 2025126124},
		{set(127, make([]byte, 16)...), 1809386523}, {set(127, ones(15, 127)...), 1432945268}, {set(128, make([]byte, 16)...), 1322705551}, {set(128, ones(15, 255)...), 2648600512},
		{set(150, make([]byte, 19)...), 2869523524}, {set(150, ones(18, 63)...), 3420665084},
		{set(1, 2), -1}, {set(1), -1}, {set(0, 0), -1}, {set(-1), -1}, {set(151, make([]byte, 19)...), -1},
	} {
		if got := impl.Digest(c.s); got != c.want {
			t.Errorf("Digest(%s) = %d, want %d", brief(c.s), got, c.want)
		}
	}
}

// TestDigestsDiffer also adds sets of different N that have the same bytes.
func TestDigestsDiffer(t *testing.T) {
	digests := map[int]impl.Set{}
	note := func(s impl.Set) {
		d := impl.Digest(s)
		if other, ok := digests[d]; ok {
			t.Errorf("%s and %s have the digest %d", brief(s), brief(other), d)
		}
		digests[d] = s
	}
	everySet(9, func(s impl.Set, _ []int) { note(s) })
	for n := 10; n <= 150; n++ {
		note(wantSet(n))
		for v := range n {
			note(wantSet(n, v))
		}
	}
}

// TestAnySession changes a few sets again and again, and looks at all of them after every change.
func TestAnySession(t *testing.T) {
	r := rand.New(rand.NewSource(56))
	for range 300 {
		n := r.Intn(151)
		l := []impl.Set{someOf(r, n, 2), someOf(r, n, 9), wantSet(n)}
		want := slices.Clone(l)
		for range 30 {
			at, from, v := r.Intn(3), r.Intn(3), r.Intn(n+2)-1
			switch r.Intn(3) {
			case 0:
				l[at], want[at] = impl.With(l[from], v), wantWith(want[from], v)
			case 1:
				l[at], want[at] = impl.Without(l[from], v), wantWithout(want[from], v)
			default:
				l[at], _ = impl.Either(l[at], l[from])
				want[at], _ = wantEither(want[at], want[from])
			}
			for i := range l {
				if !sameSet(l[i], want[i]) {
					t.Fatalf("set %d is %s, want %s", i, brief(l[i]), brief(want[i]))
				}
			}
			checkSet(t, "a session", l[at])
		}
	}
}

// anySets are sets of any N, valid or not.
func anySets(r *rand.Rand) []impl.Set {
	l := badSets()
	for _, n := range []int{0, 1, 7, 8, 9, 15, 16, 17, 127, 128, 149, 150} {
		l = append(l, setsOf(r, n)...)
	}
	return l
}

// fillSet also fills the room behind the bytes, which must not be the caller's either.
func fillSet(s impl.Set, x byte) { fill(s.Bits[:cap(s.Bits)], x) }

func TestSetArgumentsStayAsTheyAre(t *testing.T) {
	for _, s := range anySets(rand.New(rand.NewSource(57))) {
		room := append(bytes.Clone(s.Bits), 1, 2, 3, 255)
		kept := bytes.Clone(room)
		lent := impl.Set{N: s.N, Bits: room[:len(s.Bits)]}
		other := impl.Set{N: s.N, Bits: bytes.Clone(s.Bits)}
		for _, v := range []int{-1, 0, 1, 7, 8, s.N / 2, s.N - 1, s.N, math.MaxInt} {
			impl.Has(lent, v)
			fillSet(impl.With(lent, v), 99)
			fillSet(impl.Without(lent, v), 98)
		}
		for _, pair := range [][2]impl.Set{{lent, lent}, {lent, other}, {other, lent}, {lent, {}}, {{}, lent}} {
			both, _ := impl.Either(pair[0], pair[1])
			fillSet(both, 97)
		}
		impl.SetOk(lent)
		fillInts(impl.Members(lent), 96)
		impl.Digest(lent)
		if lent.N != s.N || !bytes.Equal(room, kept) || !sameSet(other, s) {
			t.Errorf("%s became %s, with %v behind it", brief(s), brief(lent), room[len(s.Bits):])
		}
	}
}

// TestSetsAreNewMemory fills some results, and then looks at others of the same arguments.
func TestSetsAreNewMemory(t *testing.T) {
	for _, s := range anySets(rand.New(rand.NewSource(58))) {
		if !wantSetOk(s) {
			continue
		}
		vertices := []int{-1, 0, s.N - 1, s.N, s.N / 2}
		for _, v := range vertices {
			fillSet(impl.With(s, v), 95)
			fillSet(impl.Without(s, v), 94)
			both, _ := impl.Either(s, s)
			fillSet(both, 93)
			fillInts(impl.Members(s), 92)
			for _, all := range []bool{false, true} {
				fresh, _ := impl.SetNew(s.N, all)
				fillSet(fresh, 91)
			}
		}
		for _, v := range vertices {
			checkSetAt(t, "new memory", s, v)
		}
		checkSet(t, "new memory", s)
		checkEither(t, "new memory", s, s, true)
		checkSetNew(t, s.N, false, wantSet(s.N), true)
		checkSetNew(t, s.N, true, wantSet(s.N, verticesOf(s.N, everyVertex)...), true)
	}
}
