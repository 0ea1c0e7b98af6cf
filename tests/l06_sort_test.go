package tests

import (
	"maps"
	"math"
	"math/rand"
	"slices"
	"strconv"
	"testing"

	"loop.example/g00671/impl"
)

func rec(a, b, c int) impl.Rec { return impl.Rec{A: a, B: b, C: c} }

// recs are records that differ in A only.
func recs(as ...int) []impl.Rec {
	l := []impl.Rec{}
	for _, a := range as {
		l = append(l, rec(a, 0, 0))
	}
	return l
}

func batch(as ...int) impl.Batch { return impl.Batch{Recs: recs(as...)} }

func wantLess(x, y impl.Rec) bool {
	return slices.Compare([]int{x.A, x.B, x.C}, []int{y.A, y.B, y.C}) < 0
}

func wantSorted(l []impl.Rec) bool {
	for i := 1; i < len(l); i++ {
		if wantLess(l[i], l[i-1]) {
			return false
		}
	}
	return true
}

func tally(l []impl.Rec) map[impl.Rec]int {
	counts := map[impl.Rec]int{}
	for _, r := range l {
		counts[r]++
	}
	return counts
}

// sortedFrom tells whether got is l in sorted order; no other list is, because equal records do not differ.
func sortedFrom(got, l []impl.Rec) bool {
	return len(got) == len(l) && wantSorted(got) && maps.Equal(tally(got), tally(l))
}

// wantMerge removes the records one at a time, as the chapter says.
func wantMerge(l []impl.Batch) []impl.Rec {
	var rest [][]impl.Rec
	for _, b := range l {
		rest = append(rest, b.Recs)
	}
	var out []impl.Rec
	for {
		best := -1
		for i, recs := range rest {
			if len(recs) > 0 && (best < 0 || wantLess(recs[0], rest[best][0])) {
				best = i
			}
		}
		if best < 0 {
			return out
		}
		out = append(out, rest[best][0])
		rest[best] = rest[best][1:]
	}
}

func checkMerge(t *testing.T, what string, l []impl.Batch, want []impl.Rec) {
	t.Helper()
	if got := impl.Merge(l); !slices.Equal(got, want) {
		t.Errorf("%s: Merge(%s) = %s, want %s", what, brief(l), brief(got), brief(want))
	}
}

func checkBatches(t *testing.T, what string, l []impl.Rec, size int, got []impl.Batch) {
	t.Helper()
	at := 0
	for i, b := range got {
		end := len(l)
		if size < len(l)-at {
			end = at + size
		}
		if at == end || !sortedFrom(b.Recs, l[at:end]) {
			t.Errorf("%s: Batches(%s, %d) has %s at %d, which is not the sorted part from %d to %d", what, brief(l), size, brief(b.Recs), i, at, end)
			return
		}
		at = end
	}
	if at != len(l) {
		t.Errorf("%s: Batches(%s, %d) ends at record %d of %d", what, brief(l), size, at, len(l))
	}
}

// checkSizes checks the promise P6 for a list and these sizes.
func checkSizes(t *testing.T, what string, l []impl.Rec, sizes []int) {
	t.Helper()
	sorted := impl.SortOne(l)
	if !sortedFrom(sorted, l) || !impl.Sorted(sorted) {
		t.Errorf("%s: SortOne(%s) = %s", what, brief(l), brief(sorted))
	}
	if got, want := impl.Sorted(l), wantSorted(l); got != want {
		t.Errorf("%s: Sorted(%s) = %v, want %v", what, brief(l), got, want)
	}
	for _, size := range sizes {
		batches := impl.Batches(l, size)
		checkBatches(t, what, l, size, batches)
		merged, all := impl.Merge(batches), impl.SortAll(l, size)
		if !slices.Equal(merged, sorted) || !slices.Equal(all, sorted) || !impl.Sorted(merged) || !impl.Sorted(all) {
			t.Errorf("%s: for %s and size %d Merge of Batches is %s and SortAll %s, want %s", what, brief(l), size, brief(merged), brief(all), brief(sorted))
		}
	}
}

// notSizes holds sizes for which there are no batches.
func notSizes(n int) []int {
	return []int{0, -1, -2, -n, -n - 1, -1 << 32, -1<<32 + 2, math.MinInt + 1, math.MinInt}
}

func checkSorting(t *testing.T, what string, l []impl.Rec) {
	t.Helper()
	n := len(l)
	checkSizes(t, what, l, append(upTo(n+3, 1), 2*n+1, 1<<32, 1<<32+1, math.MaxInt-1, math.MaxInt))
	for _, size := range notSizes(n) {
		if b, all := impl.Batches(l, size), impl.SortAll(l, size); b != nil || len(all) != 0 {
			t.Errorf("%s: for size %d there are the batches %s, and SortAll is %s", what, size, brief(b), brief(all))
		}
	}
}

// extremes are fields at which a difference overflows or a conversion to fewer bits is wrong.
var extremes = []int{math.MinInt, math.MinInt + 1, -1 << 32, -256, -1, 0, 1, 255, 1 << 32, math.MaxInt - 1, math.MaxInt}

func anyOf(r *rand.Rand, l []int) int { return l[r.Intn(len(l))] }

type maker struct {
	what string
	make func(i, n int) impl.Rec
}

// makers make the record at position i of a list of n.
func makers(r *rand.Rand) []maker {
	some := []int{-1, 0, 1}
	return []maker{
		{"any ints", func(i, n int) impl.Rec { return rec(int(r.Uint64()), int(r.Uint64()), int(r.Uint64())) }},
		{"many equal records", func(i, n int) impl.Rec { return rec(anyOf(r, some), anyOf(r, some), anyOf(r, some)) }},
		{"two records", func(i, n int) impl.Rec { return rec(5, 5, r.Intn(2)) }},
		{"all equal", func(i, n int) impl.Rec { return rec(7, -7, 70) }},
		{"all zero", func(i, n int) impl.Rec { return impl.Rec{} }},
		{"extreme fields", func(i, n int) impl.Rec { return rec(anyOf(r, extremes), anyOf(r, extremes), anyOf(r, extremes)) }},
		{"extreme third fields", func(i, n int) impl.Rec { return rec(math.MaxInt, math.MinInt, anyOf(r, extremes)) }},
		{"equal in the first field", func(i, n int) impl.Rec { return rec(-3, r.Intn(n), r.Intn(3)) }},
		{"equal in the first two fields", func(i, n int) impl.Rec { return rec(3, 4, r.Intn(n)-n/2) }},
		{"fields that pull apart", func(i, n int) impl.Rec { return rec(i/7, n-i, i) }},
		{"ascending", func(i, n int) impl.Rec { return rec(i/9-2, i/3-5, i) }},
		{"ascending with equal ones", func(i, n int) impl.Rec { return rec(i/5, 0, -i/5) }},
		{"descending", func(i, n int) impl.Rec { return rec(-i/9, -i/3, n-i) }},
		{"descending with equal ones", func(i, n int) impl.Rec { return rec(1, -i/4, 1) }},
		{"up and down", func(i, n int) impl.Rec { return rec(min(i, n-i), 0, 0) }},
		{"down and up", func(i, n int) impl.Rec { return rec(0, max(i, n-i), 0) }},
		{"the least at the end", func(i, n int) impl.Rec { return rec((i+1)%n, 0, 0) }},
		{"the greatest at the start", func(i, n int) impl.Rec { return rec((i+n-1)%n, 0, 0) }},
	}
}

func (m maker) list(n int) []impl.Rec {
	var l []impl.Rec
	for i := range n {
		l = append(l, m.make(i, n))
	}
	return l
}

func TestSortingInBatchesEqualsSortingAtOnce(t *testing.T) {
	r := rand.New(rand.NewSource(17))
	for _, m := range makers(r) {
		for n := range 50 {
			checkSorting(t, m.what+", "+strconv.Itoa(n), m.list(n))
		}
		for _, n := range []int{63, 64, 65, 100, 127, 128, 129, 255, 256, 257, 399, 400, 401} {
			checkSorting(t, m.what+", "+strconv.Itoa(n), m.list(n))
		}
	}
}

func TestSortingLongLists(t *testing.T) {
	r := rand.New(rand.NewSource(18))
	for _, m := range makers(r) {
		n := 20000
		checkSizes(t, m.what, m.list(n), []int{1, 2, 3, 141, n / 2, n - 1, n, n + 1, math.MaxInt})
	}
}

// everyList calls check with every list of at most n records of the given ones, the shorter lists first.
func everyList(of []impl.Rec, n int, check func(l []impl.Rec)) {
	lists := [][]impl.Rec{nil}
	for ; n >= 0; n-- {
		var longer [][]impl.Rec
		for _, l := range lists {
			check(l)
			for _, r := range of {
				longer = append(longer, append(slices.Clone(l), r))
			}
		}
		lists = longer
	}
}

func TestEveryShortListIsSorted(t *testing.T) {
	everyList([]impl.Rec{rec(0, 0, 0), rec(0, 0, 1), rec(0, 1, 0), rec(1, 0, 0)}, 5, func(l []impl.Rec) {
		checkSorting(t, "few records", l)
	})
	everyList([]impl.Rec{rec(math.MinInt, 0, 0), rec(0, math.MinInt, 0), rec(0, 0, math.MinInt), rec(0, 0, math.MaxInt), rec(0, math.MaxInt, 0), rec(math.MaxInt, 0, 0)}, 4, func(l []impl.Rec) {
		checkSorting(t, "few records with extreme fields", l)
	})
	everyList(recs(1, 2), 9, func(l []impl.Rec) {
		checkSorting(t, "two values", l)
	})
}

func TestLessKnown(t *testing.T) {
	ascending := []impl.Rec{
		rec(math.MinInt, math.MaxInt, math.MaxInt), rec(math.MinInt+1, 0, 0), rec(-1<<32, 5, 5), rec(-1, math.MaxInt, 0),
		rec(0, math.MinInt, math.MinInt), rec(0, math.MinInt, math.MaxInt), rec(0, -1, 9), rec(0, 0, math.MinInt), rec(0, 0, -1), rec(0, 0, 0), rec(0, 0, 1), rec(0, 0, math.MaxInt),
		rec(0, 1, math.MinInt), rec(0, 1, -1), rec(0, 1, 0), rec(0, math.MaxInt, 0), rec(1, -1, -1), rec(1, 0, 0), rec(2, -9, 0), rec(1<<32, 0, 0), rec(1<<32, 0, 1), rec(math.MaxInt-1, 7, 7),
		rec(math.MaxInt, math.MinInt, math.MaxInt), rec(math.MaxInt, math.MaxInt, math.MinInt), rec(math.MaxInt, math.MaxInt, math.MaxInt),
	}
	for i, x := range ascending {
		for j, y := range ascending {
			if got := impl.Less(x, y); got != (i < j) {
				t.Errorf("Less(%v, %v) = %v", x, y, got)
			}
		}
	}
}

func TestLessForAllFields(t *testing.T) {
	var l []impl.Rec
	for _, a := range extremes {
		for _, b := range extremes {
			for _, c := range extremes {
				l = append(l, rec(a, b, c))
			}
		}
	}
	// The fields are in ascending order, and the lists of them therefore as well.
	for i, x := range l {
		for j, y := range l {
			if impl.Less(x, y) != (i < j) {
				t.Fatalf("Less(%v, %v) = %v", x, y, i >= j)
			}
		}
	}
}

func TestSortedKnown(t *testing.T) {
	for _, c := range []struct {
		l    []impl.Rec
		want bool
	}{
		{nil, true}, {recs(), true}, {recs(0), true}, {recs(math.MinInt), true}, {recs(math.MaxInt), true},
		{recs(0, 0), true}, {recs(5, 5, 5, 5), true}, {recs(1, 2, 3), true}, {recs(1, 1, 2, 2), true}, {recs(math.MinInt, -1, 0, 1, math.MaxInt), true},
		{recs(2, 1), false}, {recs(2, 1, 3), false}, {recs(1, 3, 2), false}, {recs(1, 2, 3, 4, 0), false}, {recs(9, 1, 2, 3, 4), false}, {recs(1, 2, 3, 3, 2, 3, 4), false},
		{recs(0, -1), false}, {recs(math.MaxInt, math.MinInt), false}, {recs(math.MinInt, math.MaxInt, 0), false},
		{[]impl.Rec{rec(1, 1, 1), rec(1, 1, 2)}, true}, {[]impl.Rec{rec(1, 1, 2), rec(1, 1, 1)}, false},
		{[]impl.Rec{rec(1, 1, 2), rec(1, 2, 1)}, true}, {[]impl.Rec{rec(1, 2, 1), rec(1, 1, 2)}, false},
		{[]impl.Rec{rec(1, 2, 2), rec(2, 1, 1)}, true}, {[]impl.Rec{rec(2, 1, 1), rec(1, 2, 2)}, false},
		{[]impl.Rec{rec(0, 0, math.MinInt), rec(0, 0, math.MaxInt)}, true}, {[]impl.Rec{rec(0, math.MaxInt, 0), rec(0, math.MinInt, 0)}, false},
	} {
		if got := impl.Sorted(c.l); got != c.want {
			t.Errorf("Sorted(%v) = %v", c.l, got)
		}
	}
}

func TestOneRecordOutOfOrder(t *testing.T) {
	for n := 2; n <= 130; n++ {
		for at := 1; at < n; at++ {
			for _, low := range []impl.Rec{rec(at-2, 9, 9), rec(at-1, 0, -1), rec(at-1, -1, 9)} {
				l := recs(upTo(n, 1)...)
				for i := range l {
					l[i].A--
				}
				if !impl.Sorted(l) {
					t.Fatalf("Sorted(%s) is false", brief(l))
				}
				l[at] = low
				if impl.Sorted(l) {
					t.Errorf("Sorted(%s) is true, but record %d is too small", brief(l), at)
				}
			}
		}
	}
}

func TestSortOneKnown(t *testing.T) {
	for _, c := range []struct{ l, want []impl.Rec }{
		{nil, nil}, {recs(), nil}, {recs(4), recs(4)},
		{recs(2, 1), recs(1, 2)}, {recs(3, 1, 2), recs(1, 2, 3)}, {recs(2, 1, 2, 1), recs(1, 1, 2, 2)}, {recs(0, 0, 0), recs(0, 0, 0)},
		{recs(0, math.MaxInt, -1, math.MinInt, 1), recs(math.MinInt, -1, 0, 1, math.MaxInt)},
		{[]impl.Rec{rec(1, 1, 2), rec(1, 2, 0), rec(0, 9, 9), rec(1, 1, 1)}, []impl.Rec{rec(0, 9, 9), rec(1, 1, 1), rec(1, 1, 2), rec(1, 2, 0)}},
		{[]impl.Rec{rec(0, 0, math.MaxInt), rec(0, math.MinInt, 0), rec(0, 0, math.MinInt)}, []impl.Rec{rec(0, math.MinInt, 0), rec(0, 0, math.MinInt), rec(0, 0, math.MaxInt)}},
	} {
		if got := impl.SortOne(c.l); !slices.Equal(got, c.want) {
			t.Errorf("SortOne(%v) = %v, want %v", c.l, got, c.want)
		}
	}
}

func sameBatches(a, b []impl.Batch) bool {
	return slices.EqualFunc(a, b, func(x, y impl.Batch) bool { return slices.Equal(x.Recs, y.Recs) })
}

func TestBatchesKnown(t *testing.T) {
	l := recs(5, 3, 9, 1, 8, 8, 0)
	for _, c := range []struct {
		l    []impl.Rec
		size int
		want []impl.Batch
	}{
		{nil, 1, nil}, {nil, 7, nil}, {nil, math.MaxInt, nil}, {nil, 0, nil}, {nil, math.MinInt, nil}, {recs(), 1, nil}, {recs(), math.MaxInt, nil}, {recs(), -1, nil},
		{recs(4), 1, []impl.Batch{batch(4)}}, {recs(4), 2, []impl.Batch{batch(4)}}, {recs(4), math.MaxInt, []impl.Batch{batch(4)}}, {recs(4), 0, nil},
		{l, 1, []impl.Batch{batch(5), batch(3), batch(9), batch(1), batch(8), batch(8), batch(0)}},
		{l, 2, []impl.Batch{batch(3, 5), batch(1, 9), batch(8, 8), batch(0)}},
		{l, 3, []impl.Batch{batch(3, 5, 9), batch(1, 8, 8), batch(0)}},
		{l, 4, []impl.Batch{batch(1, 3, 5, 9), batch(0, 8, 8)}},
		{l, 6, []impl.Batch{batch(1, 3, 5, 8, 8, 9), batch(0)}},
		{l, 7, []impl.Batch{batch(0, 1, 3, 5, 8, 8, 9)}},
		{l, 8, []impl.Batch{batch(0, 1, 3, 5, 8, 8, 9)}},
		{l, math.MaxInt - 1, []impl.Batch{batch(0, 1, 3, 5, 8, 8, 9)}}, {l, math.MaxInt, []impl.Batch{batch(0, 1, 3, 5, 8, 8, 9)}},
		{l, 0, nil}, {l, -1, nil}, {l, -7, nil}, {l, math.MinInt, nil},
	} {
		if got := impl.Batches(c.l, c.size); !sameBatches(got, c.want) {
			t.Errorf("Batches(%v, %d) = %v, want %v", c.l, c.size, got, c.want)
		}
	}
}

func TestMergeKnown(t *testing.T) {
	none, empty := impl.Batch{}, batch()
	for _, c := range []struct {
		what string
		l    []impl.Batch
		want []impl.Rec
	}{
		{"no batches", nil, nil},
		{"no batches", []impl.Batch{}, nil},
		{"one empty batch", []impl.Batch{none}, nil},
		{"one empty batch", []impl.Batch{empty}, nil},
		{"empty batches", []impl.Batch{none, empty, none, empty, empty}, nil},
		{"one batch", []impl.Batch{batch(1, 2, 2)}, recs(1, 2, 2)},
		{"one batch that is not sorted", []impl.Batch{batch(2, 3, 1)}, recs(2, 3, 1)},
		{"two batches", []impl.Batch{batch(1, 4), batch(2, 3)}, recs(1, 2, 3, 4)},
		{"one behind the other", []impl.Batch{batch(1, 2), batch(3, 4)}, recs(1, 2, 3, 4)},
		{"one before the other", []impl.Batch{batch(3, 4), batch(1, 2)}, recs(1, 2, 3, 4)},
		{"empty at the start", []impl.Batch{none, batch(3), empty, batch(1)}, recs(1, 3)},
		{"empty at the start", []impl.Batch{empty, none, none, batch(3, 1)}, recs(3, 1)},
		{"empty in the middle", []impl.Batch{batch(2), none, batch(1)}, recs(1, 2)},
		{"empty in the middle", []impl.Batch{batch(2), empty, empty, none, batch(1), batch(0)}, recs(0, 1, 2)},
		{"empty at the end", []impl.Batch{batch(2), batch(1), none}, recs(1, 2)},
		{"empty at the end", []impl.Batch{batch(2, 0), none, empty, none}, recs(2, 0)},
		{"empty everywhere", []impl.Batch{none, batch(2, 5), empty, batch(), batch(1, 9), none, batch(3), empty}, recs(1, 2, 3, 5, 9)},
		{"other lengths", []impl.Batch{batch(5), batch(1, 2, 3, 4, 6, 7, 8), batch(0, 9)}, recs(0, 1, 2, 3, 4, 5, 6, 7, 8, 9)},
		{"a small record behind a great one", []impl.Batch{batch(5, 0), batch(3, 4)}, recs(3, 4, 5, 0)},
		{"descending batches", []impl.Batch{batch(9, 1), batch(8, 2), batch(7, 3)}, recs(7, 3, 8, 2, 9, 1)},
		{"the same first record", []impl.Batch{batch(1, 0), batch(1, 5)}, recs(1, 0, 1, 5)},
		{"the same first record", []impl.Batch{batch(1, 5), batch(1, 0)}, recs(1, 1, 0, 5)},
		{"the same first record in three", []impl.Batch{batch(1, 9), batch(1, 0), batch(1, 5)}, recs(1, 1, 0, 1, 5, 9)},
		{"the same first record, with others between", []impl.Batch{batch(7), batch(1, 2), batch(4), batch(1, 0), batch(3)}, recs(1, 1, 0, 2, 3, 4, 7)},
		{"the same first record behind another one", []impl.Batch{batch(2, 0), batch(1, 2, 7)}, recs(1, 2, 0, 2, 7)},
		{"the same first record behind another one", []impl.Batch{batch(2, 7), batch(1, 2, 0)}, recs(1, 2, 2, 0, 7)},
		{"zero records", []impl.Batch{none, batch(0, 0), batch(0), empty, batch(-1, 0)}, recs(-1, 0, 0, 0, 0)},
		{"extreme fields", []impl.Batch{batch(math.MaxInt, math.MinInt), batch(math.MinInt, math.MaxInt), batch(0)}, recs(math.MinInt, 0, math.MaxInt, math.MinInt, math.MaxInt)},
		{"other fields", []impl.Batch{{Recs: []impl.Rec{rec(1, 2, 2), rec(1, 0, 0)}}, {Recs: []impl.Rec{rec(1, 2, 1), rec(1, 2, 3)}}, {Recs: []impl.Rec{rec(1, 1, 9)}}}, []impl.Rec{rec(1, 1, 9), rec(1, 2, 1), rec(1, 2, 2), rec(1, 0, 0), rec(1, 2, 3)}},
	} {
		checkMerge(t, c.what, c.l, c.want)
		checkMerge(t, c.what+", by the model", c.l, wantMerge(c.l))
	}
}

// everyBatch holds every batch of at most n records with these numbers as A, sorted or not.
func everyBatch(n int, as ...int) []impl.Batch {
	var out []impl.Batch
	everyList(recs(as...), n, func(l []impl.Rec) { out = append(out, impl.Batch{Recs: l}) })
	return out
}

func TestEveryFewBatchesAreMerged(t *testing.T) {
	three := everyBatch(3, 1, 2, 3)
	for _, x := range three {
		for _, y := range three {
			for _, z := range three {
				l := []impl.Batch{x, y, z}
				checkMerge(t, "three batches", l, wantMerge(l))
			}
			l := []impl.Batch{x, y}
			checkMerge(t, "two batches", l, wantMerge(l))
		}
		checkMerge(t, "one batch", []impl.Batch{x}, x.Recs)
	}
}

func TestEveryFiveShortBatchesAreMerged(t *testing.T) {
	short := everyBatch(2, 1, 2)
	for _, a := range short {
		for _, b := range short {
			for _, c := range short {
				for _, d := range short {
					checkMerge(t, "four batches", []impl.Batch{a, b, c, d}, wantMerge([]impl.Batch{a, b, c, d}))
					for _, e := range short {
						checkMerge(t, "five batches", []impl.Batch{a, b, c, d, e}, wantMerge([]impl.Batch{a, b, c, d, e}))
					}
				}
			}
		}
	}
}

// TestTheFirstOfEqualBatchesIsTaken looks at what follows: only a batch that was taken shows its second record.
func TestTheFirstOfEqualBatchesIsTaken(t *testing.T) {
	for n := 2; n <= 33; n++ {
		for j := range n {
			for i := range j {
				l := slices.Repeat([]impl.Batch{batch(9)}, n)
				l[i], l[j] = batch(1, 0), batch(1, 5)
				checkMerge(t, "a smaller one behind the first", l, slices.Concat(recs(1, 0, 1, 5), recs(times(n-2, 9)...)))
				l[i], l[j] = batch(1, 5), batch(1, 0)
				checkMerge(t, "a smaller one behind the second", l, slices.Concat(recs(1, 1, 0, 5), recs(times(n-2, 9)...)))
				clear(l)
				l[i], l[j] = batch(1, 0), batch(1, 5)
				checkMerge(t, "two among empty ones", l, recs(1, 0, 1, 5))
			}
		}
	}
}

func TestEqualRecordsOfAllBatches(t *testing.T) {
	for n := 1; n <= 130; n++ {
		var l []impl.Batch
		var want []int
		for i := range n {
			l = append(l, batch(7, -i, 8))
			want = append(want, 7, -i)
		}
		checkMerge(t, "the same first record in all", l, slices.Concat(recs(want...), recs(times(n, 8)...)))
	}
}

func randomBatch(r *rand.Rand, m maker) impl.Batch {
	l := m.list(r.Intn(8))
	switch r.Intn(5) {
	case 0:
		return impl.Batch{}
	case 1:
		return batch()
	case 2:
		slices.SortFunc(l, func(x, y impl.Rec) int {
			return slices.Compare([]int{x.A, x.B, x.C}, []int{y.A, y.B, y.C})
		})
	}
	return impl.Batch{Recs: l}
}

func TestAnyNumberOfBatchesIsMerged(t *testing.T) {
	r := rand.New(rand.NewSource(19))
	for _, m := range makers(r) {
		for n := range 140 {
			var l []impl.Batch
			for range n {
				l = append(l, randomBatch(r, m))
			}
			checkMerge(t, m.what, l, wantMerge(l))
			slices.Reverse(l)
			checkMerge(t, m.what+", in reverse", l, wantMerge(l))
		}
	}
}

func TestManyBatches(t *testing.T) {
	n := 100000
	l := make([]impl.Batch, n)
	checkMerge(t, "many empty batches", l, nil)
	l[0], l[n/2], l[n-1] = batch(3, 0), batch(1), batch(2, 4)
	checkMerge(t, "three among many empty batches", l, recs(1, 2, 3, 0, 4))
	for i := range l {
		l[i] = batch(n - i)
	}
	checkMerge(t, "many descending batches", l, recs(upTo(n, 1)...))
}

// memoryLists are lists whose sorting has nothing, little or much to do.
func memoryLists() [][]impl.Rec {
	r := rand.New(rand.NewSource(20))
	var lists [][]impl.Rec
	for _, m := range makers(r) {
		for _, n := range []int{0, 1, 2, 3, 7, 8, 13, 40} {
			lists = append(lists, m.list(n))
		}
	}
	return append(lists, recs())
}

// lend returns a slice with the elements of l, the slice with the room behind it, and a copy of the latter.
func lend(l []impl.Rec) (lent, room, kept []impl.Rec) {
	room = append(slices.Clone(l), rec(-9, 8, 7), rec(-6, -5, 4), rec(-3, 2, 1), rec(0, 0, 0))
	return room[:len(l)], room, slices.Clone(room)
}

func fillRecs(l []impl.Rec, x int) {
	l = l[:cap(l)]
	for i := range l {
		l[i] = rec(x, x, x)
	}
}

func fillBatches(l []impl.Batch, x int) {
	for _, b := range l {
		fillRecs(b.Recs, x)
	}
}

func TestSortedListsStayAsTheyAre(t *testing.T) {
	for _, l := range memoryLists() {
		lent, room, kept := lend(l)
		impl.Sorted(lent)
		fillRecs(impl.SortOne(lent), 71)
		for _, size := range append(upTo(len(l)+2, 1), math.MinInt, -1, 0, math.MaxInt) {
			fillBatches(impl.Batches(lent, size), 72)
			fillRecs(impl.SortAll(lent, size), 73)
		}
		if !slices.Equal(room, kept) {
			t.Errorf("%s is changed by the functions that take it or through their results: %s", brief(kept), brief(room))
		}
	}
}

// checkMergeKeeps also checks that the batches, which are lent with room behind them, stay in their places.
func checkMergeKeeps(t *testing.T, parts [][]impl.Rec) {
	t.Helper()
	var l, keptL []impl.Batch
	var rooms, kepts [][]impl.Rec
	for _, part := range parts {
		lent, room, kept := lend(part)
		rooms, kepts = append(rooms, room), append(kepts, kept)
		l = append(l, impl.Batch{Recs: lent})
	}
	l = append(l, batch(77), batch(78))
	keptL = slices.Clone(l)
	fillRecs(impl.Merge(l[:len(parts)]), 74)
	for i, b := range l {
		if !slices.Equal(b.Recs, keptL[i].Recs) || cap(b.Recs) != cap(keptL[i].Recs) {
			t.Errorf("batch %d of %s is now %s", i, brief(parts), brief(b.Recs))
		}
	}
	for i, room := range rooms {
		if !slices.Equal(room, kepts[i]) {
			t.Errorf("batch %d of %s is changed by Merge or through its result: %s", i, brief(parts), brief(room))
		}
	}
}

func TestMergedBatchesStayAsTheyAre(t *testing.T) {
	for _, l := range memoryLists() {
		for _, size := range upTo(len(l)+2, 1) {
			parts := slices.Collect(slices.Chunk(l, size))
			checkMergeKeeps(t, parts)
			checkMergeKeeps(t, slices.Concat([][]impl.Rec{nil}, parts, [][]impl.Rec{{}, nil}))
			slices.Reverse(parts)
			checkMergeKeeps(t, parts)
		}
	}
}

func TestSortedListsAreNewMemory(t *testing.T) {
	for _, l := range memoryLists() {
		for _, size := range []int{1, 2, 3, len(l) + 1} {
			batches := impl.Batches(l, size)
			want := impl.SortOne(slices.Clone(l))
			lists := [][]impl.Rec{impl.SortOne(l), impl.SortAll(l, size), impl.Merge(batches), impl.SortOne(l), impl.SortAll(l, size), impl.Merge(batches)}
			for i, got := range lists {
				if !slices.Equal(got, want) {
					t.Errorf("list %d of %s was changed through another: %s", i, brief(l), brief(got))
				}
				fillRecs(got, 75)
			}
		}
	}
}

// TestBatchesAreNewMemory fills each batch with the room behind it, and then looks at all others.
func TestBatchesAreNewMemory(t *testing.T) {
	for _, l := range memoryLists() {
		for _, size := range upTo(len(l)+1, 1) {
			for at := range impl.Batches(l, size) {
				got, other := impl.Batches(l, size), impl.Batches(l, size)
				fillRecs(got[at].Recs, 76)
				got[at] = other[at]
				checkBatches(t, "with one batch filled", l, size, got)
				checkBatches(t, "beside a batch that is filled", l, size, other)
			}
		}
	}
}
