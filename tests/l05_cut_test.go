package tests

import (
	"fmt"
	"math"
	"math/rand"
	"slices"
	"testing"

	"loop.example/g00671/impl"
)

// arriving is a graph whose vertex v has degs[v] incoming edges, self-loops and parallel edges among them.
func arriving(degs ...int) impl.Graph {
	g := impl.Graph{N: len(degs)}
	for v, deg := range degs {
		for i := range deg {
			g.Edges = append(g.Edges, edge((v+i/2)%len(degs), v, i))
		}
	}
	return g
}

// joined puts lists of degrees one behind the other.
func joined(lists ...[]int) []int { return slices.Concat(lists...) }

func times(n, deg int) []int { return slices.Repeat([]int{deg}, n) }

// upTo is the list of the numbers from step to n in steps.
func upTo(n, step int) []int {
	var l []int
	for x := step; x <= n; x += step {
		l = append(l, x)
	}
	return l
}

func arrivals(g impl.Graph, lo, hi int) int {
	n := 0
	for _, e := range g.Edges {
		if e.To >= lo && e.To < hi {
			n++
		}
	}
	return n
}

func wantEndsOk(n int, ends []int) bool {
	if len(ends) == 0 {
		return n == 0
	}
	ascends := slices.IsSorted(ends) && len(slices.Compact(slices.Clone(ends))) == len(ends)
	return within(n, 150) && ascends && ends[0] > 0 && ends[len(ends)-1] == n
}

// wantCut counts the edges anew for every interval that it tries.
func wantCut(g impl.Graph, budget int) []int {
	if !wantGraphOk(g) || budget < 1 || budget > 400 {
		return nil
	}
	var ends []int
	for lo := 0; lo < g.N; lo = ends[len(ends)-1] {
		hi := lo + 1
		for hi < g.N && arrivals(g, lo, hi+1) <= budget {
			hi++
		}
		ends = append(ends, hi)
	}
	return ends
}

func wantHolds(g impl.Graph, ends []int) []int {
	if !wantGraphOk(g) || !wantEndsOk(g.N, ends) {
		return nil
	}
	var l []int
	for p := range ends {
		lo, hi := wantSpan(ends, p)
		l = append(l, arrivals(g, lo, hi))
	}
	return l
}

func wantIntervalOf(ends []int, v int) int {
	if v < 0 || len(ends) == 0 || ends[len(ends)-1] <= v {
		return -1
	}
	return len(slices.DeleteFunc(slices.Clone(ends), func(end int) bool { return end > v }))
}

func wantSpan(ends []int, p int) (int, int) {
	if p < 0 || p >= len(ends) {
		return 0, 0
	}
	return append([]int{0}, ends...)[p], ends[p]
}

func checkCutAt(t *testing.T, what string, g impl.Graph, budget int, want []int) {
	t.Helper()
	ends, model := impl.Cut(g, budget), wantCut(g, budget)
	if !slices.Equal(ends, want) || !slices.Equal(model, want) {
		t.Errorf("%s: Cut(%s, %d) = %v, want %v (by the model %v)", what, brief(g), budget, ends, want, model)
	}
}

func checkHolds(t *testing.T, what string, g impl.Graph, ends []int) {
	t.Helper()
	if got, want := impl.Holds(g, ends), wantHolds(g, ends); !slices.Equal(got, want) {
		t.Errorf("%s: Holds(%s, %s) = %v, want %v", what, brief(g), brief(ends), got, want)
	}
}

func checkEnds(t *testing.T, what string, n int, ends []int, want bool) {
	t.Helper()
	if got, model := impl.EndsOk(n, ends), wantEndsOk(n, ends); got != want || model != want {
		t.Errorf("%s: EndsOk(%d, %s) = %v, want %v (by the model %v)", what, n, brief(ends), got, want, model)
	}
}

func checkIntervalOf(t *testing.T, what string, ends []int, v int) {
	t.Helper()
	if got, want := impl.IntervalOf(ends, v), wantIntervalOf(ends, v); got != want {
		t.Errorf("%s: IntervalOf(%s, %d) = %d, want %d", what, brief(ends), v, got, want)
	}
}

func checkSpan(t *testing.T, what string, ends []int, p int) {
	t.Helper()
	lo, hi := impl.Span(ends, p)
	if wantLo, wantHi := wantSpan(ends, p); lo != wantLo || hi != wantHi {
		t.Errorf("%s: Span(%s, %d) = %d, %d, want %d, %d", what, brief(ends), p, lo, hi, wantLo, wantHi)
	}
}

// countsBefore holds, for every v from 0 to N, the number of edges that lead to a vertex below v.
func countsBefore(g impl.Graph) []int {
	counts := make([]int, g.N+1)
	for _, e := range g.Edges {
		counts[e.To+1]++
	}
	for v := range g.N {
		counts[v+1] += counts[v]
	}
	return counts
}

// checkGreedy checks the promise P2 for the division, given the graph's countsBefore.
func checkGreedy(t *testing.T, g impl.Graph, before []int, budget int) {
	t.Helper()
	ends := impl.Cut(g, budget)
	holds := impl.Holds(g, ends)
	if !impl.EndsOk(g.N, ends) || !wantEndsOk(g.N, ends) || len(holds) != len(ends) {
		t.Fatalf("Cut(%s, %d) = %v with Holds %v, which is no division", brief(g), budget, ends, holds)
	}
	lo := 0
	for p, hi := range ends {
		if holds[p] != before[hi]-before[lo] {
			t.Fatalf("Holds(%s, %v) has %d at %d, want %d", brief(g), ends, holds[p], p, before[hi]-before[lo])
		}
		if holds[p] > budget && hi-lo > 1 {
			t.Fatalf("Cut(%s, %d) = %v: interval %d has %d edges and %d vertices", brief(g), budget, ends, p, holds[p], hi-lo)
		}
		if hi < g.N && before[hi+1]-before[lo] <= budget {
			t.Fatalf("Cut(%s, %d) = %v: interval %d could have taken vertex %d", brief(g), budget, ends, p, hi)
		}
		lo = hi
	}
}

// checkBudgets also checks the budgets at which the division of g may change.
func checkBudgets(t *testing.T, g impl.Graph, budgets ...int) {
	t.Helper()
	before := countsBefore(g)
	_, in := wantDegs(g)
	most := slices.Max(append(in, 0))
	for _, budget := range slices.Concat(budgets, []int{most - 1, most, most + 1, len(g.Edges) - 1, len(g.Edges)}) {
		if within(budget-1, 399) {
			checkGreedy(t, g, before, budget)
		}
	}
}

// gathered leads most edges to few vertices, which stand anywhere and in rows.
func gathered(r *rand.Rand, n, m int) impl.Graph {
	g := randomGraph(r, n, m)
	start, width := r.Intn(n), 1+r.Intn(3)
	for i := range g.Edges {
		if r.Intn(4) > 0 {
			g.Edges[i].To = (start + r.Intn(width)) % n
		}
	}
	return g
}

func TestGraphsOfEverySizeAreDivided(t *testing.T) {
	r := rand.New(rand.NewSource(14))
	checkBudgets(t, graph(0), upTo(400, 1)...)
	for n := 1; n <= 150; n++ {
		for m := range 401 {
			checkBudgets(t, randomGraph(r, n, m), 1, 2, 1+r.Intn(400), 400)
			if m%4 == n%4 {
				checkBudgets(t, gathered(r, n, m), 1, 2, 1+r.Intn(400))
			}
		}
	}
}

func TestEveryBudgetDivides(t *testing.T) {
	r := rand.New(rand.NewSource(15))
	all := upTo(400, 1)
	for n := 1; n <= 150; n++ {
		for _, m := range []int{n, 399, 400} {
			checkBudgets(t, randomGraph(r, n, m), all...)
			checkBudgets(t, gathered(r, n, m), all...)
		}
	}
	for m := range 401 {
		for _, n := range []int{1, 2, 149, 150} {
			checkBudgets(t, randomGraph(r, n, m), all...)
		}
	}
}

func TestEverySmallDivision(t *testing.T) {
	for size := range 6 {
		degs := make([]int, size)
		for {
			g := arriving(degs...)
			for budget := 1; budget <= 7; budget++ {
				want := wantCut(g, budget)
				checkCutAt(t, "few vertices", g, budget, want)
				checkHolds(t, "few vertices", g, want)
			}
			at := slices.IndexFunc(degs, func(deg int) bool { return deg < 3 })
			if at < 0 {
				break
			}
			degs[at]++
			clear(degs[:at])
		}
	}
}

var notBudgets = []int{math.MinInt, math.MinInt + 1, -1 << 32, -400, -2, -1, 0, 401, 402, 800, 1 << 32, 1<<32 + 1, 1<<32 + 400, math.MaxInt - 1, math.MaxInt}

func TestCutKnown(t *testing.T) {
	for _, c := range []struct {
		what   string
		budget int
		degs   []int
		want   []int
	}{
		{"no vertices", 1, nil, nil},
		{"no vertices", 400, nil, nil},
		{"one vertex without edges", 1, []int{0}, []int{1}},
		{"one vertex", 2, []int{1}, []int{1}},
		{"one vertex as great as the budget", 2, []int{2}, []int{1}},
		{"one vertex above the budget", 2, []int{3}, []int{1}},
		{"above the budget at the start", 3, []int{5, 0, 0, 1}, []int{1, 4}},
		{"above the budget at the start, then as great", 3, []int{4, 3, 1}, []int{1, 2, 3}},
		{"above the budget in the middle", 3, []int{1, 0, 5, 0, 1}, []int{2, 3, 5}},
		{"above the budget at the end", 3, []int{1, 1, 5}, []int{2, 3}},
		{"above the budget everywhere", 3, []int{5, 5, 5}, []int{1, 2, 3}},
		{"above the budget in a row at the start", 1, []int{2, 3, 0, 0, 1}, []int{1, 2, 5}},
		{"above the budget in a row in the middle", 1, []int{0, 2, 2, 2, 0}, []int{1, 2, 3, 4, 5}},
		{"above the budget in a row at the end", 4, []int{2, 2, 5, 9}, []int{2, 3, 4}},
		{"above the budget with empty ones between", 3, []int{5, 0, 5, 0, 0, 5}, []int{1, 2, 3, 5, 6}},
		{"as great as the budget, then empty ones", 3, []int{3, 0, 0, 3, 0}, []int{3, 5}},
		{"empty ones, then as great as the budget", 3, []int{0, 0, 3, 0, 0, 4}, []int{5, 6}},
		{"together as great as the budget", 3, []int{1, 2, 2, 1, 3}, []int{2, 4, 5}},
		{"together one more than the budget", 3, []int{2, 2, 2, 2}, []int{1, 2, 3, 4}},
		{"only empty ones", 1, times(150, 0), []int{150}},
		{"only empty ones", 400, times(150, 0), []int{150}},
		{"empty ones around a full one", 1, joined(times(100, 0), []int{400}, times(49, 0)), []int{100, 101, 150}},
		{"empty ones around a full one", 399, joined(times(100, 0), []int{400}, times(49, 0)), []int{100, 101, 150}},
		{"empty ones around a full one", 400, joined(times(100, 0), []int{400}, times(49, 0)), []int{150}},
		{"one each", 1, times(150, 1), upTo(150, 1)},
		{"one each", 2, times(150, 1), upTo(150, 2)},
		{"one each", 7, times(150, 1), append(upTo(150, 7), 150)},
		{"one each", 149, times(150, 1), []int{149, 150}},
		{"one each", 150, times(150, 1), []int{150}},
		{"one each", 400, times(150, 1), []int{150}},
		{"four each", 3, times(100, 4), upTo(100, 1)},
		{"four each", 4, times(100, 4), upTo(100, 1)},
		{"four each", 7, times(100, 4), upTo(100, 1)},
		{"four each", 8, times(100, 4), upTo(100, 2)},
		{"four each", 399, times(100, 4), []int{99, 100}},
		{"four each", 400, times(100, 4), []int{100}},
		{"all edges to the first vertex", 399, joined([]int{400}, times(149, 0)), []int{1, 150}},
		{"all edges to the first vertex", 400, joined([]int{400}, times(149, 0)), []int{150}},
		{"all edges to the last vertex", 399, joined(times(149, 0), []int{400}), []int{149, 150}},
		{"all edges to the last vertex", 400, joined(times(149, 0), []int{400}), []int{150}},
	} {
		g := arriving(c.degs...)
		checkCutAt(t, c.what, g, c.budget, c.want)
		slices.Reverse(g.Edges)
		checkCutAt(t, c.what+", with the edges in descending order", g, c.budget, c.want)
		checkHolds(t, c.what, g, c.want)
		for _, budget := range notBudgets {
			checkCutAt(t, "a budget that is none", g, budget, nil)
		}
	}
}

func TestCutDoesNotCountOutgoingEdges(t *testing.T) {
	g := graph(4, edge(0, 3, 1), edge(0, 3, 1), edge(0, 3, 1), edge(1, 2, 1))
	checkCutAt(t, "edges from the first vertices", g, 1, []int{3, 4})
	checkCutAt(t, "edges from the first vertices", g, 3, []int{3, 4})
	checkCutAt(t, "edges from the first vertices", g, 4, []int{4})
	checkHolds(t, "edges from the first vertices", g, []int{2, 4})
	if l := impl.Holds(g, []int{2, 4}); !slices.Equal(l, []int{0, 4}) {
		t.Errorf("Holds = %v", l)
	}
}

func badGraphs() []impl.Graph {
	return []impl.Graph{
		graph(-1), graph(151), graph(math.MinInt), graph(math.MaxInt), graph(-1 << 32), graph(1 << 32), graph(1<<32 + 2),
		graph(0, edge(0, 0, 0)), graph(2, edge(2, 0, 1)), graph(2, edge(0, 2, 1)), graph(2, edge(-1, 0, 1)), graph(2, edge(0, -1, 1)),
		graph(2, edge(0, 1, 1001)), graph(2, edge(0, 1, -1)), graph(2, edge(0, math.MaxInt, 1)), graph(2, edge(0, math.MinInt, 1)),
		graph(3, edge(0, 1, 1), edge(2, 2, 1), edge(0, 3, 1)), graph(-2, edge(-1, -1, 1)), graph(151, edge(150, 150, 1)),
		sameEdges(2, 401, edge(0, 1, 1)), sameEdges(150, 4000, edge(149, 149, 1)),
	}
}

func TestGraphsThatAreNotValidAreNotDivided(t *testing.T) {
	for _, g := range badGraphs() {
		for _, budget := range append([]int{1, 2, 3, 200, 399, 400}, notBudgets...) {
			checkCutAt(t, "a graph that is not valid", g, budget, nil)
		}
		for _, ends := range [][]int{nil, {}, {0}, {1}, {2}, {1, 2}, {g.N}, {1, g.N}, {149, g.N}, upTo(150, 1)} {
			if l := impl.Holds(g, ends); l != nil {
				t.Errorf("Holds(%s, %s) = %v for a graph that is not valid", brief(g), brief(ends), l)
			}
		}
	}
}

func TestEndsOkKnown(t *testing.T) {
	for _, c := range []struct {
		n    int
		ends []int
		want bool
	}{
		{0, nil, true}, {0, []int{}, true}, {0, []int{0}, false}, {0, []int{1}, false}, {0, []int{-1}, false}, {0, []int{-1, 0}, false}, {0, []int{0, 0}, false},
		{1, nil, false}, {1, []int{}, false}, {1, []int{1}, true}, {1, []int{0}, false}, {1, []int{0, 1}, false}, {1, []int{1, 1}, false}, {1, []int{2}, false}, {1, []int{1, 2}, false}, {1, []int{-1, 1}, false},
		{5, nil, false}, {5, []int{5}, true}, {5, []int{2, 5}, true}, {5, []int{1, 2, 3, 4, 5}, true}, {5, []int{4, 5}, true},
		{5, []int{0, 5}, false}, {5, []int{0, 1, 5}, false}, {5, []int{-1, 5}, false}, {5, []int{-5, 5}, false}, {5, []int{math.MinInt, 5}, false},
		{5, []int{2, 2, 5}, false}, {5, []int{2, 5, 5}, false}, {5, []int{2, 3, 3, 5}, false}, {5, []int{5, 5}, false}, {5, []int{1, 1, 5}, false},
		{5, []int{3, 2, 5}, false}, {5, []int{2, 4, 3, 5}, false}, {5, []int{5, 4}, false}, {5, []int{5, 2}, false}, {5, []int{2, 1, 0, 5}, false}, {5, []int{5, 4, 5}, false}, {5, []int{2, -1, 5}, false}, {5, []int{2, 0, 5}, false},
		{5, []int{4}, false}, {5, []int{1}, false}, {5, []int{2, 4}, false}, {5, []int{1, 2, 3, 4}, false},
		{5, []int{6}, false}, {5, []int{2, 6}, false}, {5, []int{5, 6}, false}, {5, []int{2, 6, 5}, false}, {5, []int{2, 5, 150}, false}, {5, []int{7, 5}, false}, {5, []int{math.MaxInt}, false}, {5, []int{5, math.MaxInt}, false}, {5, []int{math.MaxInt, 5}, false},
		{150, []int{150}, true}, {150, []int{149, 150}, true}, {150, upTo(150, 1), true}, {150, upTo(150, 50), true}, {150, upTo(149, 1), false}, {150, upTo(151, 1), false}, {149, upTo(150, 1), false}, {149, upTo(149, 1), true}, {149, []int{149}, true},
		{151, []int{151}, false}, {151, upTo(151, 1), false}, {151, []int{150, 151}, false}, {151, []int{150}, false}, {151, nil, false}, {152, []int{152}, false}, {1000, upTo(1000, 1), false},
		{-1, nil, false}, {-1, []int{}, false}, {-1, []int{-1}, false}, {-1, []int{1, -1}, false}, {-1, []int{0}, false}, {-1, []int{1}, false}, {-150, []int{-150}, false}, {-150, []int{150}, false},
		{math.MinInt, nil, false}, {math.MinInt, []int{math.MinInt}, false}, {math.MinInt, []int{1, math.MinInt}, false}, {math.MinInt, []int{math.MaxInt}, false},
		{math.MaxInt, nil, false}, {math.MaxInt, []int{math.MaxInt}, false}, {math.MaxInt, []int{1, math.MaxInt}, false}, {math.MaxInt, []int{150}, false},
		{1 << 32, nil, false}, {1 << 32, []int{1 << 32}, false}, {1<<32 + 5, []int{5}, false}, {5, []int{1<<32 + 5}, false}, {256, []int{256}, false}, {256, nil, false},
	} {
		checkEnds(t, "known ends", c.n, c.ends, c.want)
	}
}

// checkAnyEnds calls all functions that take ends, whether they are valid or not.
func checkAnyEnds(t *testing.T, what string, ends []int, ns []int) {
	t.Helper()
	for _, n := range ns {
		checkEnds(t, what, n, ends, wantEndsOk(n, ends))
		if within(n, 150) {
			checkHolds(t, what, sameEdges(n, n, edge(0, n/2, 1)), ends)
		}
	}
	for _, x := range slices.Concat(ends, []int{math.MinInt, -1, 0, 1, 2, 150, 151, math.MaxInt}) {
		for _, v := range []int{x - 1, x, x + 1} {
			checkIntervalOf(t, what, ends, v)
			checkSpan(t, what, ends, v)
		}
	}
	for _, p := range []int{len(ends) - 2, len(ends) - 1, len(ends), len(ends) + 1, -len(ends), 1<<32 + len(ends) - 1, 1 << 32} {
		checkSpan(t, what, ends, p)
	}
}

func TestEverySmallListOfEnds(t *testing.T) {
	values := []int{-1, 0, 1, 2, 3, 4}
	lists := [][]int{nil, {}}
	for at := 0; at < len(lists); at++ {
		checkAnyEnds(t, "few ends", lists[at], []int{-1, 0, 1, 2, 3, 4, 5})
		if at == 0 || len(lists[at]) == 4 {
			continue
		}
		for _, x := range values {
			lists = append(lists, joined(lists[at], []int{x}))
		}
	}
	if len(lists) != 2+6+36+216+1296 {
		t.Errorf("%d lists", len(lists))
	}
}

func TestEndsWithOneChanged(t *testing.T) {
	for _, n := range []int{1, 2, 3, 75, 149, 150, 151} {
		for _, step := range []int{1, 3, n} {
			ends := upTo(n, step)
			for at := range ends {
				lo, hi := wantSpan(ends, at)
				for _, x := range []int{math.MinInt, -1, 0, lo - 1, lo, lo + 1, hi - 1, hi, hi + 1, hi + step, n - 1, n, n + 1, 1<<32 + hi, math.MaxInt} {
					changed := slices.Clone(ends)
					changed[at] = x
					checkEnds(t, "one end changed", n, changed, wantEndsOk(n, changed))
					checkHolds(t, "one end changed", graph(min(n, 150), edge(0, 0, 1)), changed)
				}
			}
		}
	}
}

// randomEnds are valid for n vertices; with a greater odds there are fewer of them.
func randomEnds(r *rand.Rand, n, odds int) []int {
	var ends []int
	for end := 1; end < n; end++ {
		if r.Intn(odds) == 0 {
			ends = append(ends, end)
		}
	}
	if n > 0 {
		ends = append(ends, n)
	}
	return ends
}

// checkVertices looks every vertex up, and every interval of ends that are valid for n.
func checkVertices(t *testing.T, n int, ends []int) {
	t.Helper()
	checkEnds(t, "a division", n, ends, true)
	for v := range n {
		p := impl.IntervalOf(ends, v)
		lo, hi := impl.Span(ends, p)
		if p < 0 || p >= len(ends) || v < lo || v >= hi || hi != ends[p] {
			t.Errorf("vertex %d is in interval %d from %d to %d of %s", v, p, lo, hi, brief(ends))
		}
	}
	before := 0
	for p := range ends {
		lo, hi := impl.Span(ends, p)
		if lo != before || hi != ends[p] {
			t.Errorf("Span(%s, %d) = %d, %d behind %d", brief(ends), p, lo, hi, before)
		}
		before = hi
	}
	for _, v := range []int{math.MinInt, -1, n, n + 1, math.MaxInt} {
		if p := impl.IntervalOf(ends, v); p != -1 {
			t.Errorf("IntervalOf(%s, %d) = %d, want -1", brief(ends), v, p)
		}
	}
}

func TestDivisionsOfEverySize(t *testing.T) {
	r := rand.New(rand.NewSource(16))
	for n := range 151 {
		for _, odds := range []int{1, 2, 5, 30, 200} {
			ends := randomEnds(r, n, odds)
			checkVertices(t, n, ends)
			checkAnyEnds(t, "a division", ends, []int{-1, 0, n - 1, n, n + 1, 150, 151})
			if n == 0 {
				continue
			}
			for _, m := range []int{0, 1, r.Intn(401), 399, 400} {
				g := randomGraph(r, n, m)
				checkHolds(t, "a division", g, ends)
				checkAllHeld(t, g, ends)
			}
		}
	}
}

func checkAllHeld(t *testing.T, g impl.Graph, ends []int) {
	t.Helper()
	sum := 0
	for _, held := range impl.Holds(g, ends) {
		sum += held
	}
	if sum != len(g.Edges) {
		t.Errorf("the intervals %s hold %d of %d edges", brief(ends), sum, len(g.Edges))
	}
}

func TestHoldsKnown(t *testing.T) {
	degs := []int{0, 2, 1, 0, 1, 7}
	for _, c := range []struct{ ends, want []int }{
		{[]int{6}, []int{11}},
		{[]int{1, 6}, []int{0, 11}},
		{[]int{5, 6}, []int{4, 7}},
		{[]int{2, 4, 6}, []int{2, 1, 8}},
		{[]int{1, 2, 3, 4, 5, 6}, degs},
		{nil, nil}, {[]int{}, nil}, {[]int{0, 6}, nil}, {[]int{-1, 6}, nil}, {[]int{2, 2, 6}, nil}, {[]int{4, 2, 6}, nil}, {[]int{6, 6}, nil},
		{[]int{5}, nil}, {[]int{1, 5}, nil}, {[]int{7}, nil}, {[]int{6, 7}, nil}, {[]int{7, 6}, nil}, {[]int{150}, nil}, {[]int{math.MinInt}, nil}, {[]int{math.MaxInt}, nil}, {[]int{math.MaxInt, 6}, nil}, {[]int{6, math.MinInt}, nil},
	} {
		if l := impl.Holds(arriving(degs...), c.ends); !slices.Equal(l, c.want) {
			t.Errorf("Holds(%v, %v) = %v, want %v", degs, c.ends, l, c.want)
		}
	}
	for _, ends := range [][]int{nil, {}, {0}, {1}, {-1}} {
		if l := impl.Holds(graph(0), ends); len(l) != 0 {
			t.Errorf("Holds without vertices, %v = %v", ends, l)
		}
	}
	checkHolds(t, "the most edges", arriving(400), []int{1})
	checkHolds(t, "the most edges to the last vertex", sameEdges(150, 400, edge(0, 149, 1)), []int{149, 150})
	checkHolds(t, "the most edges to the first vertex", sameEdges(150, 400, edge(149, 0, 1)), upTo(150, 1))
}

func TestIntervalOfKnown(t *testing.T) {
	ends := []int{2, 3, 7, 150}
	for v, want := range map[int]int{
		math.MinInt: -1, -150: -1, -2: -1, -1: -1, 0: 0, 1: 0, 2: 1, 3: 2, 4: 2, 6: 2, 7: 3, 8: 3, 148: 3, 149: 3, 150: -1, 151: -1,
		1 << 32: -1, 1<<32 + 2: -1, math.MaxInt - 1: -1, math.MaxInt: -1,
	} {
		if got := impl.IntervalOf(ends, v); got != want {
			t.Errorf("IntervalOf(%v, %d) = %d, want %d", ends, v, got, want)
		}
		for _, none := range [][]int{nil, {}} {
			if got := impl.IntervalOf(none, v); got != -1 {
				t.Errorf("IntervalOf(no ends, %d) = %d, want -1", v, got)
			}
		}
	}
}

func TestSpanKnown(t *testing.T) {
	ends := []int{2, 3, 7, 150}
	for p, want := range map[int][2]int{
		0: {0, 2}, 1: {2, 3}, 2: {3, 7}, 3: {7, 150},
		math.MinInt: {}, -4: {}, -1: {}, 4: {}, 5: {}, 7: {}, 150: {}, 1 << 32: {}, 1<<32 + 1: {}, math.MaxInt - 1: {}, math.MaxInt: {},
	} {
		if lo, hi := impl.Span(ends, p); lo != want[0] || hi != want[1] {
			t.Errorf("Span(%v, %d) = %d, %d, want %v", ends, p, lo, hi, want)
		}
		for _, none := range [][]int{nil, {}} {
			if lo, hi := impl.Span(none, p); lo != 0 || hi != 0 {
				t.Errorf("Span(no ends, %d) = %d, %d", p, lo, hi)
			}
		}
	}
}

func TestEndsThatAreNotValidAreOnlyCounted(t *testing.T) {
	for _, ends := range [][]int{
		{0}, {-1}, {-3, 4}, {0, 4}, {0, 0, 4}, {4, 4}, {2, 2, 5}, {9, 2, 5}, {5, 4, 3, 2, 1}, {9, 1, 9, 1, 9}, {200}, {151, 149}, {149, 151}, {200, 100, 300},
		{math.MinInt}, {math.MaxInt}, {math.MinInt, 3}, {math.MaxInt, 3}, {3, math.MaxInt}, {3, math.MinInt}, {math.MinInt, math.MaxInt}, {math.MaxInt, math.MinInt}, {math.MaxInt, math.MaxInt},
		upTo(1000, 1), times(1000, 7), joined(upTo(150, 1), upTo(150, 1)),
	} {
		checkAnyEnds(t, "ends that are not valid", ends, []int{math.MinInt, -1, 0, 1, 2, 3, 4, 5, 7, 9, 149, 150, 151, 200, 1000, math.MaxInt})
	}
}

func TestCutArgumentsStayAsTheyAre(t *testing.T) {
	graphs := append(goodGraphs(), badGraphs()...)
	for _, g := range graphs {
		room := append(slices.Clone(g.Edges), edge(7, 8, 9), edge(-1, -2, -3))
		kept := slices.Clone(room)
		lent := impl.Graph{N: g.N, Edges: room[:len(g.Edges)]}
		for _, ends := range [][]int{nil, {0}, wantCut(g, 1), wantCut(g, 2), {g.N}, {3, 2, 1}} {
			lentEnds := append(slices.Clone(ends), 7, 8, 9)
			keptEnds := slices.Clone(lentEnds)
			given := lentEnds[:len(ends)]
			for _, budget := range []int{-1, 0, 1, 2, 400, 401} {
				fillInts(impl.Cut(lent, budget), 77)
			}
			fillInts(impl.Holds(lent, given), 88)
			impl.EndsOk(g.N, given)
			impl.IntervalOf(given, 1)
			impl.Span(given, 1)
			if lent.N != g.N || !slices.Equal(room, kept) || !slices.Equal(lentEnds, keptEnds) {
				t.Errorf("%s or %s is changed by the functions that take it", brief(g), brief(ends))
			}
		}
	}
}

func TestDivisionsAreNewMemory(t *testing.T) {
	for _, g := range goodGraphs() {
		for _, budget := range []int{1, 2, 399, 400} {
			ends := wantCut(g, budget)
			wants := [][]int{ends, wantHolds(g, ends)}
			lists := [][]int{impl.Cut(g, budget), impl.Holds(g, ends), impl.Cut(g, budget), impl.Holds(g, ends)}
			for i, want := range slices.Concat(wants, wants) {
				if !slices.Equal(lists[i], want) {
					t.Errorf("list %d of %s was changed through another: %s", i, brief(g), fmt.Sprint(lists[i]))
				}
				fillInts(lists[i], -7)
			}
		}
	}
}
