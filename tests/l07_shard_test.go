package tests

import (
	"fmt"
	"math"
	"math/rand"
	"slices"
	"strconv"
	"testing"

	"loop.example/g00671/impl"
)

func sedge(from, to, w, index, val int) impl.SEdge {
	return impl.SEdge{From: from, To: to, W: w, Index: index, Val: val}
}

func shard(lo, hi int, edges ...impl.SEdge) impl.Shard {
	return impl.Shard{Lo: lo, Hi: hi, Edges: edges}
}

func sameShard(a, b impl.Shard) bool {
	return a.Lo == b.Lo && a.Hi == b.Hi && slices.Equal(a.Edges, b.Edges)
}

func sameShards(a, b []impl.Shard) bool { return slices.EqualFunc(a, b, sameShard) }

func cloneShards(l []impl.Shard) []impl.Shard {
	out := slices.Clone(l)
	for i := range out {
		out[i].Edges = slices.Clone(out[i].Edges)
	}
	return out
}

func wantShardOk(s impl.Shard) bool {
	if s.Lo < 0 || s.Hi <= s.Lo || s.Hi > 150 || len(s.Edges) > 400 {
		return false
	}
	for i, e := range s.Edges {
		if !within(e.From, 149) || e.To < s.Lo || e.To >= s.Hi || !within(e.W, 1000) || !within(e.Index, 399) || !within(e.Val, 1<<48-1) {
			return false
		}
		if i > 0 && slices.Compare([]int{s.Edges[i-1].From, s.Edges[i-1].Index}, []int{e.From, e.Index}) >= 0 {
			return false
		}
	}
	return true
}

// wantShards looks through the graph for every interval; what leads there is in the order of Index.
func wantShards(g impl.Graph, ends []int, size int) []impl.Shard {
	if !wantGraphOk(g) || !wantEndsOk(g.N, ends) || size < 1 {
		return nil
	}
	var l []impl.Shard
	for p := range ends {
		lo, hi := wantSpan(ends, p)
		s := shard(lo, hi)
		for i, e := range g.Edges {
			if e.To >= lo && e.To < hi {
				s.Edges = append(s.Edges, sedge(e.From, e.To, e.W, i, 0))
			}
		}
		slices.SortStableFunc(s.Edges, func(x, y impl.SEdge) int { return x.From - y.From })
		l = append(l, s)
	}
	return l
}

func wantJoined(n int, l []impl.Shard) (impl.Graph, bool) {
	var ends []int
	var all []impl.SEdge
	for _, s := range l {
		if !wantShardOk(s) {
			return impl.Graph{}, false
		}
		ends = append(ends, s.Hi)
		all = append(all, s.Edges...)
	}
	if !wantEndsOk(n, ends) {
		return impl.Graph{}, false
	}
	for p, s := range l {
		if lo, _ := wantSpan(ends, p); s.Lo != lo {
			return impl.Graph{}, false
		}
	}
	slices.SortFunc(all, func(x, y impl.SEdge) int { return x.Index - y.Index })
	g := impl.Graph{N: n}
	for i, e := range all {
		if e.Index != i || e.From >= n {
			return impl.Graph{}, false
		}
		g.Edges = append(g.Edges, edge(e.From, e.To, e.W))
	}
	return g, true
}

func wantWindow(s impl.Shard, lo, hi int) (int, int) {
	if !wantShardOk(s) || lo > hi {
		return 0, 0
	}
	below, under := 0, 0
	for _, e := range s.Edges {
		if e.From < lo {
			below++
		}
		if e.From < hi {
			under++
		}
	}
	return below, under
}

func checkShardOk(t *testing.T, what string, s impl.Shard, want bool) {
	t.Helper()
	if got, model := impl.ShardOk(s), wantShardOk(s); got != want || model != want {
		t.Errorf("%s: ShardOk(%s) = %v, want %v (by the model %v)", what, brief(s), got, want, model)
	}
}

func checkJoined(t *testing.T, what string, n int, l []impl.Shard, want bool) {
	t.Helper()
	g, ok := impl.Joined(n, l)
	model, modelOk := wantJoined(n, l)
	if ok != want || modelOk != want || !sameGraph(g, model) {
		t.Errorf("%s: Joined(%d, %s) = %s, %v, want %s, %v (by the model %v)", what, n, brief(l), brief(g), ok, brief(model), want, modelOk)
	}
	if ok && !impl.GraphOk(g) {
		t.Errorf("%s: Joined(%d, %s) is not valid: %s", what, n, brief(l), brief(g))
	}
}

func checkWindow(t *testing.T, what string, s impl.Shard, lo, hi int) {
	t.Helper()
	a, b := impl.Window(s, lo, hi)
	if wantA, wantB := wantWindow(s, lo, hi); a != wantA || b != wantB {
		t.Errorf("%s: Window(%s, %d, %d) = %d, %d, want %d, %d", what, brief(s), lo, hi, a, b, wantA, wantB)
	}
}

// checkDealt checks the promise P6 for a graph, a division and these sizes.
func checkDealt(t *testing.T, what string, g impl.Graph, ends []int, sizes ...int) {
	t.Helper()
	want := wantShards(g, ends, 1)
	if !wantGraphOk(g) || !wantEndsOk(g.N, ends) {
		t.Fatalf("%s: %s is not a graph, or %s does not divide it", what, brief(g), brief(ends))
	}
	for _, size := range sizes {
		l := impl.Shards(g, ends, size)
		if !sameShards(l, want) {
			t.Errorf("%s: Shards(%s, %s, %d) = %s, want %s", what, brief(g), brief(ends), size, brief(l), brief(want))
		}
		for p, s := range l {
			if !impl.ShardOk(s) {
				t.Errorf("%s: shard %d of Shards(%s, %s, %d) is not valid: %s", what, p, brief(g), brief(ends), size, brief(s))
			}
		}
		if back, ok := impl.Joined(g.N, l); !ok || !sameGraph(back, g) {
			t.Errorf("%s: Joined(%d, Shards(%s, %s, %d)) = %s, %v", what, g.N, brief(g), brief(ends), size, brief(back), ok)
		}
	}
}

// divisionsOf are valid ends: one interval, one per vertex, some chosen at random, and those of some budgets.
func divisionsOf(r *rand.Rand, g impl.Graph) [][]int {
	if g.N == 0 {
		return [][]int{nil, {}}
	}
	return [][]int{
		{g.N}, upTo(g.N, 1), randomEnds(r, g.N, 2), randomEnds(r, g.N, 2+r.Intn(20)),
		impl.Cut(g, 1), impl.Cut(g, 2), impl.Cut(g, 1+r.Intn(400)), impl.Cut(g, 400),
	}
}

func TestGraphsOfEverySizeAreDealtOut(t *testing.T) {
	r := rand.New(rand.NewSource(21))
	for n := range 151 {
		for _, m := range []int{0, 1, n, r.Intn(401), 400} {
			for _, g := range []impl.Graph{randomGraph(r, n, m), gathered(r, max(n, 1), m)} {
				for _, ends := range divisionsOf(r, g) {
					checkDealt(t, "a graph of some size", g, ends, 1+r.Intn(401))
				}
			}
		}
	}
}

func TestGraphsOfEveryNumberOfEdgesAreDealtOut(t *testing.T) {
	r := rand.New(rand.NewSource(37))
	for m := range 401 {
		for _, n := range []int{1, 2 + r.Intn(148), 150} {
			g := randomGraph(r, n, m)
			ends := divisionsOf(r, g)[r.Intn(8)]
			checkDealt(t, "some number of edges", g, ends, 1, 2, max(1, m/2), max(1, m-1), max(1, m), m+1)
		}
	}
}

func TestEverySizeOfBatches(t *testing.T) {
	r := rand.New(rand.NewSource(22))
	for _, g := range []impl.Graph{graph(0), graph(150), randomGraph(r, 1, 3), randomGraph(r, 3, 400), gathered(r, 40, 133), randomGraph(r, 150, 400), gathered(r, 150, 400)} {
		for _, ends := range divisionsOf(r, g)[:2] {
			checkDealt(t, "every size", g, ends, append(upTo(len(g.Edges)+3, 1), 801, 1<<32, 1<<32+1, math.MaxInt-1, math.MaxInt)...)
		}
		for _, ends := range divisionsOf(r, g) {
			checkDealt(t, "many divisions", g, ends, append(upTo(len(g.Edges)+3, 9), math.MaxInt)...)
		}
	}
}

func TestGoodGraphsAreDealtOut(t *testing.T) {
	r := rand.New(rand.NewSource(23))
	for _, g := range goodGraphs() {
		for _, ends := range divisionsOf(r, g) {
			checkDealt(t, "a valid graph", g, ends, 1, 2, 3, 7, 399, 400, 401, math.MaxInt)
		}
	}
}

func TestEveryBudgetDealsOut(t *testing.T) {
	r := rand.New(rand.NewSource(24))
	for _, g := range []impl.Graph{randomGraph(r, 30, 400), gathered(r, 150, 400), arriving(times(100, 4)...), arriving(5, 0, 0, 30, 1, 364)} {
		for budget := 1; budget <= 400; budget += 3 {
			ends := impl.Cut(g, budget)
			checkDealt(t, "every budget", g, ends, 1+r.Intn(400))
			for p, s := range impl.Shards(g, ends, 10) {
				if len(s.Edges) != impl.Holds(g, ends)[p] {
					t.Errorf("shard %d of %s with budget %d has %d edges", p, brief(g), budget, len(s.Edges))
				}
			}
		}
	}
}

// everyGraph calls check with every graph of n vertices and at most m edges, which differ in W.
func everyGraph(n, m int, check func(g impl.Graph)) {
	graphs := []impl.Graph{graph(n)}
	for ; m >= 0; m-- {
		var longer []impl.Graph
		for _, g := range graphs {
			check(g)
			for i := range n * n {
				e := edge(i/n, i%n, 1000-len(g.Edges))
				longer = append(longer, graph(n, append(slices.Clone(g.Edges), e)...))
			}
		}
		graphs = longer
	}
}

// everyDivision holds all valid ends for n vertices.
func everyDivision(n int) [][]int {
	if n == 0 {
		return [][]int{nil}
	}
	all := [][]int{{n}}
	for end := 1; end < n; end++ {
		for _, rest := range everyDivision(n - end) {
			ends := []int{end}
			for _, x := range rest {
				ends = append(ends, end+x)
			}
			all = append(all, ends)
		}
	}
	return all
}

func TestEverySmallGraphIsDealtOut(t *testing.T) {
	if l := everyDivision(5); len(l) != 16 {
		t.Fatalf("the divisions of 5 vertices are %v", l)
	}
	for n, m := range []int{2, 4, 4, 3, 2, 2} {
		divisions := everyDivision(n)
		everyGraph(n, m, func(g impl.Graph) {
			for _, ends := range divisions {
				checkDealt(t, "a small graph", g, ends, 1, 2, 3, 5)
			}
		})
	}
}

func TestShardsKnown(t *testing.T) {
	g := graph(5, edge(4, 0, 9), edge(0, 3, 8), edge(2, 2, 7), edge(4, 1, 6), edge(0, 3, 5), edge(4, 0, 9), edge(0, 0, 1000), edge(3, 4, 0), edge(1, 3, 3))
	toFirst := []impl.SEdge{sedge(0, 0, 1000, 6, 0), sedge(4, 0, 9, 0, 0), sedge(4, 1, 6, 3, 0), sedge(4, 0, 9, 5, 0)}
	toThird := []impl.SEdge{sedge(2, 2, 7, 2, 0)}
	toLast := []impl.SEdge{sedge(0, 3, 8, 1, 0), sedge(0, 3, 5, 4, 0), sedge(1, 3, 3, 8, 0), sedge(3, 4, 0, 7, 0)}
	for _, c := range []struct {
		g    impl.Graph
		ends []int
		want []impl.Shard
	}{
		{graph(0), nil, nil},
		{graph(0), []int{}, nil},
		{graph(1), []int{1}, []impl.Shard{shard(0, 1)}},
		{graph(150), []int{150}, []impl.Shard{shard(0, 150)}},
		{graph(3), []int{1, 2, 3}, []impl.Shard{shard(0, 1), shard(1, 2), shard(2, 3)}},
		{graph(1, edge(0, 0, 4)), []int{1}, []impl.Shard{shard(0, 1, sedge(0, 0, 4, 0, 0))}},
		{graph(2, edge(0, 1, 4)), []int{1, 2}, []impl.Shard{shard(0, 1), shard(1, 2, sedge(0, 1, 4, 0, 0))}},
		{graph(2, edge(1, 0, 4)), []int{1, 2}, []impl.Shard{shard(0, 1, sedge(1, 0, 4, 0, 0)), shard(1, 2)}},
		{graph(2, edge(0, 1, 4), edge(0, 1, 4), edge(0, 1, 3)), []int{2}, []impl.Shard{shard(0, 2, sedge(0, 1, 4, 0, 0), sedge(0, 1, 4, 1, 0), sedge(0, 1, 3, 2, 0))}},
		{g, []int{2, 3, 5}, []impl.Shard{shard(0, 2, toFirst...), shard(2, 3, toThird...), shard(3, 5, toLast...)}},
		{g, []int{3, 5}, []impl.Shard{shard(0, 3, toFirst[0], toThird[0], toFirst[1], toFirst[2], toFirst[3]), shard(3, 5, toLast...)}},
		{g, []int{1, 2, 5}, []impl.Shard{shard(0, 1, toFirst[0], toFirst[1], toFirst[3]), shard(1, 2, toFirst[2]), shard(2, 5, toLast[0], toLast[1], toLast[2], toThird[0], toLast[3])}},
		{g, []int{5}, []impl.Shard{shard(0, 5, toLast[0], toLast[1], toFirst[0], toLast[2], toThird[0], toLast[3], toFirst[1], toFirst[2], toFirst[3])}},
	} {
		for _, size := range []int{1, 2, 3, 8, 9, 10, math.MaxInt} {
			if l := impl.Shards(c.g, c.ends, size); !sameShards(l, c.want) || !sameShards(wantShards(c.g, c.ends, size), c.want) {
				t.Errorf("Shards(%s, %v, %d) = %s, want %s", brief(c.g), c.ends, size, brief(l), brief(c.want))
			}
			if h, ok := impl.Joined(c.g.N, c.want); !ok || !sameGraph(h, c.g) {
				t.Errorf("Joined(%d, %s) = %s, %v", c.g.N, brief(c.want), brief(h), ok)
			}
		}
	}
}

func checkNoShards(t *testing.T, what string, g impl.Graph, ends []int, size int) {
	t.Helper()
	if l := impl.Shards(g, ends, size); l != nil || wantShards(g, ends, size) != nil {
		t.Errorf("%s: Shards(%s, %s, %d) = %s", what, brief(g), brief(ends), size, brief(l))
	}
}

func TestShardsNeedAGraphAndEndsAndASize(t *testing.T) {
	for _, g := range badGraphs() {
		for _, ends := range [][]int{nil, {}, {0}, {1}, {2}, {1, 2}, {3}, {g.N}, {1, g.N}, {149, g.N}, {150}, upTo(150, 1), upTo(151, 1)} {
			for _, size := range []int{1, 2, 400, math.MaxInt, 0, -1, math.MinInt} {
				checkNoShards(t, "a graph that is not valid", g, ends, size)
			}
		}
	}
	g := randomGraph(rand.New(rand.NewSource(25)), 5, 9)
	for _, ends := range [][]int{
		nil, {}, {0}, {4}, {6}, {0, 5}, {-1, 5}, {2, 2, 5}, {3, 2, 5}, {5, 5}, {2, 4}, {2, 6}, {5, 6}, {2, 5, 6}, {5, 4}, {2, 6, 5}, {150}, {1, 2, 3, 4},
		{math.MinInt, 5}, {math.MaxInt}, {5, math.MaxInt}, {math.MaxInt, 5}, {1<<32 + 5}, {2, 1<<32 + 5}, {-5}, {2, -5}, upTo(150, 1),
	} {
		for _, size := range []int{1, 2, 9, math.MaxInt, 0, math.MinInt} {
			checkNoShards(t, "ends that are not valid", g, ends, size)
		}
	}
	for _, ends := range [][]int{{0}, {1}, {-1}, {0, 0}, {150}} {
		checkNoShards(t, "ends without vertices", graph(0), ends, 3)
	}
	for _, good := range append(goodGraphs(), g) {
		for _, size := range notSizes(len(good.Edges)) {
			checkNoShards(t, "a size that is none", good, wantCut(good, 2), size)
			checkNoShards(t, "a size that is none", good, wantCut(good, 400), size)
		}
	}
}

func TestShardOkKnown(t *testing.T) {
	e, f := sedge(3, 2, 9, 5, 7), sedge(3, 2, 9, 6, 7)
	for _, c := range []struct {
		what string
		s    impl.Shard
		want bool
	}{
		{"the zero value", impl.Shard{}, false},
		{"one vertex", shard(0, 1), true},
		{"one vertex", impl.Shard{Lo: 0, Hi: 1, Edges: []impl.SEdge{}}, true},
		{"the last vertex", shard(149, 150), true},
		{"all vertices", shard(0, 150), true},
		{"Lo negative", shard(-1, 1), false},
		{"Lo negative", shard(-1, 0), false},
		{"Lo and Hi negative", shard(-2, -1), false},
		{"Lo and Hi equal", shard(0, 0), false},
		{"Lo and Hi equal", shard(5, 5), false},
		{"Lo and Hi equal", shard(150, 150), false},
		{"Lo and Hi descending", shard(5, 4), false},
		{"Lo and Hi descending", shard(150, 0), false},
		{"Hi too great", shard(0, 151), false},
		{"Hi too great", shard(150, 151), false},
		{"Hi too great", shard(149, 151), false},
		{"the least Lo", shard(math.MinInt, 1), false},
		{"the greatest Hi", shard(0, math.MaxInt), false},
		{"the greatest Lo", shard(math.MaxInt, 1), false},
		{"the least Hi", shard(0, math.MinInt), false},
		{"one edge", shard(2, 4, e), true},
		{"one edge", shard(2, 3, e), true},
		{"an edge from the first vertex", shard(0, 1, sedge(0, 0, 0, 0, 0)), true},
		{"an edge from the last vertex", shard(149, 150, sedge(149, 149, 1000, 399, impl.MaxNum)), true},
		{"an edge to another interval", shard(3, 4, e), false},
		{"an edge to another interval", shard(0, 2, e), false},
		{"an edge in a shard without vertices", shard(2, 2, e), false},
		{"an edge in a shard with a negative Lo", shard(-2, 4, e), false},
		{"an edge in a shard with too great a Hi", shard(2, 151, e), false},
		{"by From", shard(2, 3, sedge(1, 2, 0, 9, 0), sedge(2, 2, 0, 8, 0), sedge(4, 2, 0, 7, 0)), true},
		{"out of order by From", shard(2, 3, sedge(2, 2, 0, 7, 0), sedge(1, 2, 0, 8, 0)), false},
		{"by Index", shard(2, 3, e, f), true},
		{"out of order by Index", shard(2, 3, f, e), false},
		{"equal in From and Index", shard(2, 3, e, e), false},
		{"equal in From and Index, with another W", shard(2, 3, e, sedge(3, 2, 10, 5, 7)), false},
		{"equal in From and Index, with another To", shard(1, 3, sedge(3, 1, 9, 5, 7), e), false},
		{"equal in From and Index, with another Val", shard(2, 3, e, sedge(3, 2, 9, 5, 8)), false},
		{"equal in From and Index behind others", shard(2, 3, sedge(0, 2, 0, 5, 0), e, f, f), false},
		{"equal in Index, with another From", shard(2, 3, sedge(2, 2, 9, 5, 7), e), true},
		{"not by To", shard(0, 3, sedge(3, 2, 9, 5, 7), sedge(3, 0, 9, 6, 7), sedge(3, 1, 9, 7, 7)), true},
		{"not by W or Val", shard(2, 3, sedge(3, 2, 9, 5, 7), sedge(3, 2, 1, 6, 0)), true},
		{"out of order at the end", shard(2, 3, sedge(0, 2, 0, 0, 0), sedge(1, 2, 0, 1, 0), sedge(1, 2, 0, 0, 0)), false},
		{"out of order at the start", shard(2, 3, sedge(1, 2, 0, 0, 0), sedge(0, 2, 0, 1, 0), sedge(2, 2, 0, 0, 0)), false},
	} {
		checkShardOk(t, c.what, c.s, c.want)
	}
}

func TestShardBoundsAtTheirLimits(t *testing.T) {
	ints := []int{math.MinInt, math.MinInt + 1, -1 << 32, -151, -150, -1, 0, 1, 2, 75, 148, 149, 150, 151, 152, 255, 256, 1 << 32, 1<<32 + 1, 1<<32 + 150, math.MaxInt - 1, math.MaxInt}
	for _, lo := range ints {
		for _, hi := range ints {
			ok := within(lo, 149) && within(hi, 150) && hi > lo
			checkShardOk(t, "Lo and Hi", shard(lo, hi), ok)
			checkShardOk(t, "Lo, Hi and an edge to Lo", shard(lo, hi, sedge(0, lo, 0, 0, 0)), ok)
			checkShardOk(t, "Lo, Hi and an edge to the last vertex", shard(lo, hi, sedge(0, hi-1, 0, 0, 0)), ok)
			checkShardOk(t, "Lo, Hi and an edge before Lo", shard(lo, hi, sedge(0, lo-1, 0, 0, 0)), false)
			checkShardOk(t, "Lo, Hi and an edge to Hi", shard(lo, hi, sedge(0, hi, 0, 0, 0)), false)
		}
	}
}

// row is a valid shard of m edges, with per edges from every vertex.
func row(lo, hi, m, per int) impl.Shard {
	s := shard(lo, hi)
	for i := range m {
		s.Edges = append(s.Edges, sedge(i/per, lo+i%(hi-lo), i%1001, i%400, i))
	}
	return s
}

func TestShardsHaveAtMostMaxMEdges(t *testing.T) {
	for m, want := range map[int]bool{0: true, 1: true, 399: true, 400: true, 401: false, 402: false, 800: false, 60000: false} {
		s := row(0, 1, m, 400)
		checkShardOk(t, strconv.Itoa(m)+" edges", s, want)
		checkWindow(t, strconv.Itoa(m)+" edges", s, 0, 150)
		checkWindow(t, strconv.Itoa(m)+" edges", s, 1, 149)
	}
	checkShardOk(t, "three edges a vertex", row(7, 150, 400, 3), true)
	for _, m := range []int{401, 402, 450} {
		checkShardOk(t, "three edges a vertex", row(7, 150, m, 3), false)
	}
}

// fieldLimits holds, for every field of an edge, the name, the greatest value, and how to change it; To is in a shard from 0 on.
var fieldLimits = []struct {
	name string
	most int
	set  func(e *impl.SEdge, x int)
}{
	{"From", 149, func(e *impl.SEdge, x int) { e.From = x }},
	{"To", 39, func(e *impl.SEdge, x int) { e.To = x }},
	{"W", 1000, func(e *impl.SEdge, x int) { e.W = x }},
	{"Index", 399, func(e *impl.SEdge, x int) { e.Index = x }},
	{"Val", 281474976710655, func(e *impl.SEdge, x int) { e.Val = x }},
}

func TestShardEdgesAtTheirLimits(t *testing.T) {
	for _, f := range fieldLimits {
		for _, x := range []int{
			math.MinInt, math.MinInt + 1, -1 << 48, -1 << 32, -256, -2, -1, 0, 1, 2, f.most - 1, f.most, f.most + 1, f.most + 2,
			38, 39, 40, 41, 149, 150, 151, 255, 256, 399, 400, 401, 1000, 1001, 1 << 32, 1<<32 + 1, 1 << 48, 1<<48 - 1, math.MaxInt - 1, math.MaxInt,
		} {
			alone := shard(0, 40, sedge(1, 1, 1, 1, 1))
			f.set(&alone.Edges[0], x)
			checkShardOk(t, f.name+" alone", alone, within(x, f.most))
			for _, at := range []int{0, 1, 7, 198, 398, 399} {
				s := row(0, 40, 400, 3)
				f.set(&s.Edges[at], x)
				checkShardOk(t, f.name+" at "+strconv.Itoa(at), s, wantShardOk(s))
			}
			first, last := row(0, 40, 400, 5), row(0, 40, 400, 5)
			f.set(&first.Edges[0], x)
			f.set(&last.Edges[399], x)
			inFirst := map[string]bool{"From": x == 0, "Index": within(x, 0)}
			inLast := map[string]bool{"From": within(x-79, 70), "Index": x == 399}
			if f.name != "From" && f.name != "Index" {
				inFirst[f.name], inLast[f.name] = within(x, f.most), within(x, f.most)
			}
			checkShardOk(t, f.name+" of the first", first, inFirst[f.name])
			checkShardOk(t, f.name+" of the last", last, inLast[f.name])
		}
	}
}

func TestToIsInTheInterval(t *testing.T) {
	for _, bounds := range [][]int{{0, 1}, {0, 2}, {0, 150}, {1, 2}, {1, 150}, {40, 41}, {40, 99}, {148, 150}, {149, 150}} {
		lo, hi := bounds[0], bounds[1]
		for _, x := range []int{math.MinInt, math.MinInt + 1, -lo, -hi, -1, 0, 1, lo - 1, lo, lo + 1, hi - 2, hi - 1, hi, hi + 1, 149, 150, 151, 1<<32 + lo, math.MaxInt} {
			for _, at := range []int{0, 1, 99, 199} {
				s := row(lo, hi, 200, 2)
				s.Edges[at].To = x
				checkShardOk(t, "To", s, x >= lo && x < hi)
			}
		}
	}
}

func TestEveryShortOrderOfEdges(t *testing.T) {
	var places []impl.Rec
	for i := range 9 {
		places = append(places, rec(0, i/3, i%3))
	}
	count := map[bool]int{}
	everyList(places, 4, func(l []impl.Rec) {
		s := shard(2, 4)
		for i, p := range l {
			s.Edges = append(s.Edges, sedge(p.B, 2+i%2, 9-i, p.C, 9-i))
		}
		want := wantSorted(l) && len(tally(l)) == len(l)
		checkShardOk(t, "a short order", s, want)
		count[want]++
	})
	if count[true] != 1+9+36+84+126 || count[true]+count[false] != 1+9+81+729+6561 {
		t.Errorf("valid or not: %v", count)
	}
}

func TestOneEdgeOutOfOrder(t *testing.T) {
	for _, n := range []int{2, 3, 4, 7, 8, 9, 63, 64, 65, 127, 128, 129, 399, 400} {
		for at := 1; at < n; at++ {
			for _, per := range []int{3, 400} {
				s := row(0, 2, n, per)
				before := s.Edges[at-1]
				s.Edges[at].From, s.Edges[at].Index = before.From, before.Index
				checkShardOk(t, "two neighbors at one place", s, false)
				s = row(0, 2, n, per)
				s.Edges[at-1], s.Edges[at] = s.Edges[at], s.Edges[at-1]
				checkShardOk(t, "two neighbors exchanged", s, false)
				if per == 3 && at >= 3 {
					s = row(0, 2, n, per)
					s.Edges[at].From = s.Edges[at].From - 1
					checkShardOk(t, "a From that is one less", s, at%3 == 0)
				}
			}
		}
	}
}

func TestJoinedWithoutShards(t *testing.T) {
	for _, n := range []int{math.MinInt, math.MinInt + 1, -1 << 32, -150, -1, 0, 1, 2, 149, 150, 151, 1 << 32, math.MaxInt} {
		checkJoined(t, "no shards", n, nil, n == 0)
		checkJoined(t, "no shards", n, []impl.Shard{}, n == 0)
	}
}

func TestJoinedNeedsTheSameVertices(t *testing.T) {
	ints := []int{math.MinInt, math.MinInt + 1, -1 << 32, -151, -150, -5, -1, 0, 1, 2, 3, 4, 5, 6, 7, 148, 149, 150, 151, 152, 256, 1 << 32, 1<<32 + 5, 1<<32 + 150, math.MaxInt - 1, math.MaxInt}
	for _, n := range ints {
		checkJoined(t, "one shard", n, []impl.Shard{shard(0, 5)}, n == 5)
		checkJoined(t, "one shard with an edge", n, []impl.Shard{shard(0, 5, sedge(4, 4, 3, 0, 2))}, n == 5)
		checkJoined(t, "two shards", n, []impl.Shard{shard(0, 2), shard(2, 5)}, n == 5)
		checkJoined(t, "one vertex", n, []impl.Shard{shard(0, 1)}, n == 1)
		checkJoined(t, "all vertices", n, []impl.Shard{shard(0, 150)}, n == 150)
		checkJoined(t, "all vertices in two shards", n, []impl.Shard{shard(0, 149), shard(149, 150)}, n == 150)
		checkJoined(t, "too many vertices", n, []impl.Shard{shard(0, 151)}, false)
		checkJoined(t, "too many vertices", n, []impl.Shard{shard(0, 150), shard(150, 151)}, false)
		checkJoined(t, "too many vertices", n, []impl.Shard{shard(0, 149), shard(149, 151)}, false)
		checkJoined(t, "as many vertices", n, []impl.Shard{shard(0, n)}, within(n-1, 149))
		checkJoined(t, "no vertices", n, []impl.Shard{shard(0, 0)}, false)
		checkJoined(t, "no vertices", n, []impl.Shard{{}}, false)
		checkJoined(t, "no vertices", n, []impl.Shard{{}, {}}, false)
		checkJoined(t, "no vertices at the end", n, []impl.Shard{shard(0, 5), shard(5, 5)}, false)
		checkJoined(t, "no vertices at the start", n, []impl.Shard{shard(0, 0), shard(0, 5)}, false)
		checkJoined(t, "a negative start", n, []impl.Shard{shard(-1, 5)}, false)
		checkJoined(t, "a negative shard", n, []impl.Shard{shard(-2, 0), shard(0, 5)}, false)
		checkJoined(t, "a shard backwards", n, []impl.Shard{shard(5, 0)}, false)
		checkJoined(t, "a shard backwards at the end", n, []impl.Shard{shard(0, 7), shard(7, 5)}, false)
	}
}

func TestJoinedKnown(t *testing.T) {
	a := shard(0, 2, sedge(0, 1, 10, 2, 5), sedge(3, 0, 11, 0, 0))
	b := shard(2, 3)
	c := shard(3, 5, sedge(0, 4, 12, 1, impl.MaxNum), sedge(0, 3, 13, 3, 1), sedge(4, 4, 1000, 4, 0))
	g, ok := impl.Joined(5, []impl.Shard{a, b, c})
	if want := graph(5, edge(3, 0, 11), edge(0, 4, 12), edge(0, 1, 10), edge(0, 3, 13), edge(4, 4, 1000)); !ok || !sameGraph(g, want) {
		t.Errorf("the graph is %s, %v", brief(g), ok)
	}
	for _, x := range []struct {
		what string
		l    []impl.Shard
		n    int
		want bool
	}{
		{"in order", []impl.Shard{a, b, c}, 5, true},
		{"one vertex less", []impl.Shard{a, b, c}, 4, false},
		{"one vertex more", []impl.Shard{a, b, c}, 6, false},
		{"another order", []impl.Shard{b, a, c}, 5, false},
		{"another order", []impl.Shard{a, c, b}, 5, false},
		{"another order", []impl.Shard{c, b, a}, 5, false},
		{"another order", []impl.Shard{b, c, a}, 5, false},
		{"missing at the start", []impl.Shard{b, c}, 5, false},
		{"missing in the middle", []impl.Shard{a, c}, 5, false},
		{"missing at the end", []impl.Shard{a, b}, 5, false},
		{"missing at the end, with fewer vertices", []impl.Shard{a, b}, 3, false},
		{"only the one in the middle", []impl.Shard{b}, 5, false},
		{"only the one in the middle", []impl.Shard{b}, 1, false},
		{"only the one in the middle", []impl.Shard{b}, 3, false},
		{"one twice", []impl.Shard{a, b, b, c}, 5, false},
		{"one twice", []impl.Shard{a, a, b, c}, 5, false},
		{"one twice", []impl.Shard{a, b, c, c}, 5, false},
		{"one twice at the end", []impl.Shard{a, b, c, b}, 5, false},
		{"an empty one before", []impl.Shard{shard(0, 0), a, b, c}, 5, false},
		{"an empty one between", []impl.Shard{a, shard(2, 2), b, c}, 5, false},
		{"an empty one behind", []impl.Shard{a, b, c, shard(5, 5)}, 5, false},
		{"the zero value behind", []impl.Shard{a, b, c, {}}, 5, false},
		{"overlapping", []impl.Shard{a, shard(1, 3), c}, 5, false},
		{"overlapping", []impl.Shard{a, shard(2, 4), c}, 5, false},
		{"apart", []impl.Shard{shard(0, 1), b, shard(3, 5)}, 5, false},
		{"apart", []impl.Shard{shard(0, 2), b, shard(4, 5)}, 5, false},
		{"apart at the start", []impl.Shard{shard(1, 2), b, shard(3, 5)}, 5, false},
		{"apart at the end", []impl.Shard{shard(0, 2), b, shard(3, 4)}, 5, false},
		{"beyond the end", []impl.Shard{shard(0, 2), b, shard(3, 6)}, 5, false},
		{"without edges", []impl.Shard{shard(0, 2), b, shard(3, 5)}, 5, true},
		{"an Index that is missing", []impl.Shard{shard(0, 2), b, c}, 5, false},
		{"Index 0 only", []impl.Shard{shard(0, 5, sedge(2, 2, 2, 0, 2))}, 5, true},
		{"Index 1 only", []impl.Shard{shard(0, 5, sedge(2, 2, 2, 1, 2))}, 5, false},
		{"Index 399 only", []impl.Shard{shard(0, 5, sedge(2, 2, 2, 399, 2))}, 5, false},
		{"Index 0 and 2", []impl.Shard{shard(0, 5, sedge(2, 2, 2, 0, 2), sedge(2, 2, 2, 2, 2))}, 5, false},
		{"Index 0 and 399", []impl.Shard{shard(0, 5, sedge(2, 2, 2, 0, 2), sedge(2, 2, 2, 399, 2))}, 5, false},
		{"Index 1 and 2", []impl.Shard{shard(0, 5, sedge(2, 2, 2, 1, 2), sedge(2, 2, 2, 2, 2))}, 5, false},
		{"Index 1 and 0", []impl.Shard{shard(0, 5, sedge(2, 2, 2, 1, 2), sedge(3, 2, 2, 0, 2))}, 5, true},
		{"Index 0 twice in a shard", []impl.Shard{shard(0, 5, sedge(1, 2, 2, 0, 2), sedge(2, 2, 2, 0, 2))}, 5, false},
		{"Index 0 twice in a shard, with Index 1", []impl.Shard{shard(0, 5, sedge(1, 2, 2, 0, 2), sedge(2, 2, 2, 0, 2), sedge(3, 2, 2, 1, 2))}, 5, false},
		{"Index 0 twice in a shard, with Index 2", []impl.Shard{shard(0, 5, sedge(1, 2, 2, 0, 2), sedge(2, 2, 2, 0, 2), sedge(3, 2, 2, 2, 2))}, 5, false},
		{"Index 0 twice in two shards", []impl.Shard{shard(0, 1, sedge(1, 0, 2, 0, 2)), shard(1, 5, sedge(1, 2, 2, 0, 2))}, 5, false},
		{"Index 0 twice in two shards, with Index 1", []impl.Shard{shard(0, 1, sedge(1, 0, 2, 0, 2)), shard(1, 5, sedge(1, 2, 2, 0, 2), sedge(1, 2, 2, 1, 2))}, 5, false},
		{"Index 1 twice in two shards", []impl.Shard{shard(0, 1, sedge(1, 0, 2, 1, 2)), shard(1, 5, sedge(1, 2, 2, 0, 2), sedge(1, 2, 2, 1, 2))}, 5, false},
		{"the last From", []impl.Shard{shard(0, 5, sedge(4, 2, 2, 0, 2))}, 5, true},
		{"a From equal to n", []impl.Shard{shard(0, 5, sedge(5, 2, 2, 0, 2))}, 5, false},
		{"a From beyond n", []impl.Shard{shard(0, 5, sedge(149, 2, 2, 0, 2))}, 5, false},
		{"a From equal to n at the end", []impl.Shard{shard(0, 2, sedge(0, 1, 2, 0, 2)), shard(2, 5, sedge(1, 2, 2, 1, 2), sedge(5, 2, 2, 2, 2))}, 5, false},
		{"a From equal to n at the start", []impl.Shard{shard(0, 2, sedge(5, 1, 2, 0, 2)), shard(2, 5, sedge(1, 2, 2, 1, 2))}, 5, false},
		{"a From equal to n, with fewer vertices in the shard", []impl.Shard{shard(0, 2, sedge(4, 1, 2, 0, 2)), shard(2, 5)}, 5, true},
	} {
		checkJoined(t, x.what, x.n, x.l, x.want)
	}
}

// badEdges makes an edge of a valid shard from Lo 0 to Hi 40 not valid.
func badEdges() []func(e *impl.SEdge) {
	var l []func(e *impl.SEdge)
	for _, f := range fieldLimits {
		for _, x := range []int{math.MinInt, -1, f.most + 1, math.MaxInt} {
			l = append(l, func(e *impl.SEdge) { f.set(e, x) })
		}
	}
	return l
}

func TestJoinedNeedsValidShards(t *testing.T) {
	r := rand.New(rand.NewSource(26))
	for _, ends := range [][]int{{40}, {10, 20, 40}, upTo(40, 1)} {
		g := randomGraph(r, 40, 200)
		l := wantShards(g, ends, 1)
		for p := range l {
			for at := range l[p].Edges {
				for _, bad := range badEdges() {
					kept := l[p].Edges[at]
					bad(&l[p].Edges[at])
					checkJoined(t, "an edge that is not valid", g.N, l, false)
					l[p].Edges[at] = kept
				}
				if at > 0 {
					l[p].Edges[at-1], l[p].Edges[at] = l[p].Edges[at], l[p].Edges[at-1]
					checkJoined(t, "edges out of order", g.N, l, false)
					l[p].Edges[at-1], l[p].Edges[at] = l[p].Edges[at], l[p].Edges[at-1]
				}
			}
		}
		checkJoined(t, "as they were", g.N, l, true)
	}
	many := row(0, 1, 401, 400)
	checkJoined(t, "too many edges", 1, []impl.Shard{many}, false)
	many.Edges = many.Edges[:400]
	checkJoined(t, "as many edges as there may be", 1, []impl.Shard{many}, true)
	two := shard(1, 2, sedge(0, 1, 0, 0, 0))
	checkJoined(t, "one edge more in another shard", 2, []impl.Shard{many, two}, false)
	two.Edges[0].Index = 399
	checkJoined(t, "one edge more in another shard", 2, []impl.Shard{many, two}, false)
	many.Edges = many.Edges[:399]
	checkJoined(t, "as many edges in two shards", 2, []impl.Shard{many, two}, true)
}

func TestShardsNotInARowAreNotJoined(t *testing.T) {
	r := rand.New(rand.NewSource(27))
	for n := 1; n <= 150; n += 1 + n/10 {
		for _, m := range []int{0, n, 400} {
			g := randomGraph(r, n, m)
			for _, ends := range divisionsOf(r, g)[:4] {
				checkNotInARow(t, g, ends)
			}
		}
	}
}

// checkNotInARow spoils the row of shards at every place.
func checkNotInARow(t *testing.T, g impl.Graph, ends []int) {
	t.Helper()
	l := wantShards(g, ends, 1)
	checkJoined(t, "a row", g.N, l, true)
	checkJoined(t, "a row that is too short", g.N+1, l, false)
	checkJoined(t, "a row that is too long", g.N-1, l, false)
	for p := range l {
		checkJoined(t, "one missing", g.N, slices.Delete(slices.Clone(l), p, p+1), false)
		checkJoined(t, "one twice", g.N, slices.Insert(slices.Clone(l), p, l[p]), false)
		checkJoined(t, "the last one further in front", g.N, slices.Insert(slices.Clone(l[:len(l)-1]), p, l[len(l)-1]), p == len(l)-1)
		bent := cloneShards(l)
		bent[p].Lo++
		checkJoined(t, "Lo one more", g.N, bent, false)
		bent[p].Lo -= 2
		checkJoined(t, "Lo one less", g.N, bent, false)
		bent[p].Lo++
		bent[p].Hi++
		checkJoined(t, "Hi one more", g.N, bent, false)
		bent[p].Hi -= 2
		checkJoined(t, "Hi one less", g.N, bent, false)
		if p > 0 {
			other := slices.Clone(l)
			other[p-1], other[p] = other[p], other[p-1]
			checkJoined(t, "two exchanged", g.N, other, false)
		}
	}
	back := slices.Clone(l)
	slices.Reverse(back)
	checkJoined(t, "in reverse", g.N, back, len(l) == 1)
	checkJoined(t, "all twice", g.N, slices.Concat(l, l), false)
}

func TestVeryManyShardsAreNotJoined(t *testing.T) {
	l := wantShards(graph(3, edge(0, 1, 2), edge(2, 2, 1)), []int{1, 3}, 1)
	for _, n := range []int{3, 6, 150} {
		checkJoined(t, "very many", n, slices.Repeat(l, 100000), false)
		checkJoined(t, "very many zero values", n, make([]impl.Shard, 100000), false)
		checkJoined(t, "very many behind a row", n, append(slices.Clone(l), make([]impl.Shard, 100000)...), false)
	}
}

// TestJoinedIndexes gives every edge every Index nearby, with as little else changed as possible.
func TestJoinedIndexes(t *testing.T) {
	r := rand.New(rand.NewSource(28))
	for _, m := range []int{1, 2, 3, 5, 40, 399, 400} {
		// Every edge has a From of its own where that is possible, so any Index keeps the order.
		g := impl.Graph{N: 150}
		for i := range m {
			g.Edges = append(g.Edges, edge(i%150, r.Intn(150), i))
		}
		for _, ends := range [][]int{{150}, {75, 150}, upTo(150, 1), randomEnds(r, 150, 9)} {
			l := wantShards(g, ends, 1)
			for p := range l {
				for at, e := range l[p].Edges {
					if m > 40 && r.Intn(4) > 0 {
						continue
					}
					for _, x := range []int{0, 1, e.Index - 1, e.Index, e.Index + 1, m - 1, m, m + 1, 399, r.Intn(400)} {
						l[p].Edges[at].Index = x
						checkJoined(t, "another Index", g.N, l, x == e.Index)
					}
					l[p].Edges[at] = e
				}
			}
		}
	}
}

func TestIndexesExchanged(t *testing.T) {
	g := graph(4, edge(0, 0, 1), edge(1, 1, 2), edge(2, 2, 3), edge(3, 3, 4))
	everyList([]impl.Rec{rec(0, 0, 0), rec(1, 0, 0), rec(2, 0, 0), rec(3, 0, 0)}, 4, func(order []impl.Rec) {
		if len(order) < 4 {
			return
		}
		for _, ends := range everyDivision(4) {
			l := wantShards(g, ends, 1)
			for p := range l {
				for at, e := range l[p].Edges {
					l[p].Edges[at].Index = order[e.From].A
				}
			}
			checkJoined(t, "indexes exchanged", 4, l, len(tally(order)) == 4)
		}
	})
}

func TestValuesAreNotJoined(t *testing.T) {
	r := rand.New(rand.NewSource(29))
	for n := 1; n <= 150; n += 7 {
		g := randomGraph(r, n, 400)
		for _, ends := range divisionsOf(r, g) {
			l := impl.Shards(g, ends, 50)
			for p := range l {
				for at := range l[p].Edges {
					l[p].Edges[at].Val = []int{0, 1, 255, 1 << 32, impl.MaxNum, r.Intn(impl.MaxNum)}[r.Intn(6)]
				}
			}
			if back, ok := impl.Joined(n, l); !ok || !sameGraph(back, g) {
				t.Errorf("%s with values is joined to %s, %v", brief(g), brief(back), ok)
			}
		}
	}
}

func TestEveryFromIsLessThanN(t *testing.T) {
	for _, n := range []int{1, 2, 3, 75, 148, 149, 150} {
		for from := range 150 {
			checkJoined(t, "a From", n, []impl.Shard{shard(0, n, sedge(from, n-1, 0, 0, 0))}, from < n)
			if n > 1 {
				checkJoined(t, "a From in two shards", n, []impl.Shard{shard(0, 1, sedge(0, 0, 0, 1, 0)), shard(1, n, sedge(from, n-1, 0, 0, 0))}, from < n)
				checkJoined(t, "a From in two shards", n, []impl.Shard{shard(0, n-1, sedge(from, 0, 0, 1, 0)), shard(n-1, n, sedge(0, n-1, 0, 0, 0))}, from < n)
			}
		}
	}
}

// spoil changes one thing of l, in many cases so that the shards can still be joined.
func spoil(r *rand.Rand, n int, l []impl.Shard) (int, []impl.Shard) {
	x := []int{-1, 0, 1, 2, n - 1, n, n + 1, 149, 150, 151, 399, 400, r.Intn(400), math.MinInt, math.MaxInt}[r.Intn(15)]
	if len(l) == 0 {
		return x, l
	}
	p := r.Intn(len(l))
	s := &l[p]
	switch what := r.Intn(14); {
	case what == 0:
		return x, l
	case what == 1:
		s.Lo = x
	case what == 2:
		s.Hi = x
	case what == 3:
		return n, slices.Insert(l, p, shard(s.Lo, s.Lo))
	case what == 4:
		return n, slices.Delete(l, p, p+1)
	case what == 5 && p > 0:
		// Two shards of neighboring intervals become one, whose edges may have to be sorted.
		joint := shard(l[p-1].Lo, s.Hi, slices.Concat(l[p-1].Edges, s.Edges)...)
		if r.Intn(2) == 0 {
			slices.SortFunc(joint.Edges, func(x, y impl.SEdge) int {
				return slices.Compare([]int{x.From, x.Index}, []int{y.From, y.Index})
			})
		}
		return n, slices.Replace(l, p-1, p+1, joint)
	case len(s.Edges) == 0:
		s.Edges = append(s.Edges, sedge(r.Intn(n+1), s.Lo, 0, r.Intn(9), 0))
	case what < 11:
		f := fieldLimits[r.Intn(len(fieldLimits))]
		f.set(&s.Edges[r.Intn(len(s.Edges))], x)
	case what == 11:
		s.Edges = s.Edges[:len(s.Edges)-1]
	case what == 12:
		s.Edges = append(s.Edges, s.Edges[0])
	default:
		r.Shuffle(len(s.Edges), func(i, j int) { s.Edges[i], s.Edges[j] = s.Edges[j], s.Edges[i] })
	}
	return n, l
}

func TestAnyShards(t *testing.T) {
	r := rand.New(rand.NewSource(30))
	valid, whole := map[bool]int{}, map[bool]int{}
	for range 30000 {
		n := r.Intn(7)
		if r.Intn(20) == 0 {
			n = 149 + r.Intn(2)
		}
		g := randomGraph(r, n, r.Intn(9))
		l := impl.Shards(g, randomEnds(r, n, 2), 1+r.Intn(9))
		for range r.Intn(3) {
			n, l = spoil(r, n, l)
			if !within(n, 1000) {
				break
			}
		}
		_, ok := wantJoined(n, l)
		checkJoined(t, "any shards", n, l, ok)
		whole[ok]++
		for _, s := range l {
			checkShardOk(t, "any shard", s, wantShardOk(s))
			checkWindow(t, "any shard", s, r.Intn(9)-1, r.Intn(9)-1)
			valid[wantShardOk(s)]++
		}
	}
	if min(valid[true], valid[false], whole[true], whole[false]) < 3000 {
		t.Errorf("valid or not: %v, joined or not: %v", valid, whole)
	}
}

func TestWindowKnown(t *testing.T) {
	s := shard(3, 5, sedge(1, 3, 0, 4, 0), sedge(1, 4, 0, 7, 0), sedge(2, 3, 0, 0, 0), sedge(5, 3, 0, 1, 0), sedge(5, 3, 0, 2, 0), sedge(5, 4, 0, 9, 0), sedge(9, 4, 0, 3, 0))
	for _, c := range []struct{ lo, hi, a, b int }{
		{0, 150, 0, 7}, {0, 10, 0, 7}, {0, 9, 0, 6}, {0, 1, 0, 0}, {0, 2, 0, 2}, {0, 0, 0, 0}, {1, 1, 0, 0}, {1, 2, 0, 2}, {1, 3, 0, 3}, {1, 5, 0, 3}, {1, 6, 0, 6}, {1, 9, 0, 6}, {1, 10, 0, 7},
		{2, 2, 2, 2}, {2, 3, 2, 3}, {2, 5, 2, 3}, {2, 6, 2, 6}, {3, 3, 3, 3}, {3, 5, 3, 3}, {3, 6, 3, 6}, {5, 5, 3, 3}, {5, 6, 3, 6}, {5, 9, 3, 6}, {5, 10, 3, 7}, {6, 6, 6, 6}, {6, 9, 6, 6}, {6, 10, 6, 7}, {9, 10, 6, 7}, {10, 10, 7, 7}, {10, 150, 7, 7}, {149, 150, 7, 7}, {150, 150, 7, 7},
		{-1, 0, 0, 0}, {-1, 2, 0, 2}, {-5, -1, 0, 0}, {-1, -1, 0, 0}, {-150, 150, 0, 7}, {151, 152, 7, 7}, {1000, 1000, 7, 7}, {0, 1000, 0, 7},
		{math.MinInt, math.MinInt, 0, 0}, {math.MinInt, 0, 0, 0}, {math.MinInt, 2, 0, 2}, {math.MinInt, math.MaxInt, 0, 7}, {2, math.MaxInt, 2, 7}, {math.MaxInt, math.MaxInt, 7, 7}, {math.MaxInt - 1, math.MaxInt, 7, 7}, {5, 1 << 32, 3, 7}, {1 << 32, 1<<32 + 5, 7, 7}, {-1 << 32, 5, 0, 3},
		{1, 0, 0, 0}, {2, 1, 0, 0}, {6, 5, 0, 0}, {10, 9, 0, 0}, {150, 149, 0, 0}, {150, 0, 0, 0}, {6, -1, 0, 0}, {1000, 999, 0, 0}, {6, math.MinInt, 0, 0}, {math.MaxInt, 6, 0, 0}, {math.MaxInt, math.MinInt, 0, 0}, {0, -1, 0, 0}, {math.MaxInt, math.MaxInt - 1, 0, 0},
	} {
		if a, b := impl.Window(s, c.lo, c.hi); a != c.a || b != c.b {
			t.Errorf("Window(%s, %d, %d) = %d, %d, want %d, %d", brief(s), c.lo, c.hi, a, b, c.a, c.b)
		}
		checkWindow(t, "known windows", s, c.lo, c.hi)
		checkWindow(t, "a shard without edges", shard(3, 5), c.lo, c.hi)
		checkWindow(t, "a shard with no edges", impl.Shard{Lo: 0, Hi: 150, Edges: []impl.SEdge{}}, c.lo, c.hi)
		if a, b := impl.Window(shard(0, 1), c.lo, c.hi); a != 0 || b != 0 {
			t.Errorf("the window from %d to %d of no edges is %d to %d", c.lo, c.hi, a, b)
		}
	}
}

// checkWindows looks through windows of all places and beyond them.
func checkWindows(t *testing.T, what string, s impl.Shard, step int) {
	t.Helper()
	places := []int{math.MinInt, math.MinInt + 1, -1 << 32, -2, -1, 149, 150, 151, 1 << 32, math.MaxInt - 1, math.MaxInt}
	for x := 0; x < 149; x += step {
		places = append(places, x)
	}
	for _, lo := range places {
		for _, hi := range places {
			checkWindow(t, what, s, lo, hi)
		}
	}
}

func TestWindowsOfEveryWidth(t *testing.T) {
	r := rand.New(rand.NewSource(31))
	for _, m := range []int{0, 1, 2, 3, 7, 8, 9, 15, 16, 17, 127, 128, 129, 255, 256, 257, 399, 400} {
		for _, per := range []int{1, 3, 9, 400} {
			if m/per < 150 {
				checkWindows(t, "equal numbers from every vertex", row(0, 1, m, per), 5)
			}
		}
		g := gathered(r, 150, m)
		for i := range g.Edges {
			g.Edges[i].From, g.Edges[i].To = g.Edges[i].To, g.Edges[i].From
		}
		for _, s := range impl.Shards(g, []int{2, 75, 150}, 20) {
			checkWindows(t, "many edges with one From", s, 5)
		}
	}
}

func TestEveryWindow(t *testing.T) {
	r := rand.New(rand.NewSource(32))
	for _, g := range []impl.Graph{randomGraph(r, 150, 200), randomGraph(r, 150, 60), sameEdges(150, 9, edge(149, 0, 1)), sameEdges(150, 9, edge(0, 0, 1))} {
		for _, s := range impl.Shards(g, []int{80, 150}, 20) {
			checkWindows(t, "every window", s, 1)
		}
	}
}

// TestWindowsTogetherAreTheShard is what the sliding windows rely on: those of all intervals follow each other.
func TestWindowsTogetherAreTheShard(t *testing.T) {
	r := rand.New(rand.NewSource(33))
	for range 200 {
		g := randomGraph(r, 1+r.Intn(150), r.Intn(401))
		ends := randomEnds(r, g.N, 1+r.Intn(20))
		for _, s := range impl.Shards(g, ends, 50) {
			at := 0
			for p := range ends {
				lo, hi := impl.Span(ends, p)
				a, b := impl.Window(s, lo, hi)
				if a != at || b < a || slices.ContainsFunc(s.Edges[a:b], func(e impl.SEdge) bool { return e.From < lo || e.From >= hi }) {
					t.Errorf("the window from %d to %d of %s is %d to %d behind %d", lo, hi, brief(s), a, b, at)
				}
				at = b
			}
			if at != len(s.Edges) {
				t.Errorf("the windows of %s end at %d", brief(s), at)
			}
		}
	}
}

// badShards are not valid for one reason each.
func badShards() []impl.Shard {
	bad := []impl.Shard{{}, shard(-1, 40), shard(5, 5), shard(6, 5), shard(0, 151), shard(math.MinInt, math.MaxInt), row(0, 1, 401, 400)}
	for i := range bad[:6] {
		bad[i].Edges = append(bad[i].Edges, sedge(3, max(bad[i].Lo, 0), 3, 3, 3))
	}
	for _, at := range []int{0, 1, 5, 9} {
		for _, change := range badEdges() {
			s := row(0, 40, 10, 1)
			change(&s.Edges[at])
			bad = append(bad, s)
		}
	}
	for at := 1; at < 10; at++ {
		s, twice := row(0, 40, 10, 1), row(0, 40, 10, 1)
		s.Edges[at-1], s.Edges[at] = s.Edges[at], s.Edges[at-1]
		twice.Edges[at] = twice.Edges[at-1]
		bad = append(bad, s, twice)
	}
	return bad
}

func TestShardsThatAreNotValidHaveNoWindows(t *testing.T) {
	for _, s := range badShards() {
		checkShardOk(t, "a shard that is not valid", s, false)
		for _, lo := range []int{math.MinInt, -1, 0, 1, 3, 5, 9, 10, 150, math.MaxInt} {
			for _, hi := range []int{math.MinInt, -1, 0, 1, 3, 4, 6, 10, 150, 151, math.MaxInt} {
				if a, b := impl.Window(s, lo, hi); a != 0 || b != 0 {
					t.Errorf("Window(%s, %d, %d) = %d, %d, but the shard is not valid", brief(s), lo, hi, a, b)
				}
			}
		}
		for _, n := range []int{0, 1, 39, 40, 41, 150, s.Hi} {
			checkJoined(t, "a shard that is not valid", n, []impl.Shard{s}, false)
			checkJoined(t, "a shard that is not valid", n, []impl.Shard{s, shard(40, 41), shard(41, 150)}, false)
		}
	}
}

func fillSEdges(l []impl.SEdge, x int) {
	l = l[:cap(l)]
	for i := range l {
		l[i] = sedge(x, x, x, x, x)
	}
}

func fillShards(l []impl.Shard, x int) {
	for i := range l {
		fillSEdges(l[i].Edges, x)
		l[i].Lo, l[i].Hi, l[i].Edges = x, x, nil
	}
	more := l[len(l):cap(l)]
	for i := range more {
		fillSEdges(more[i].Edges, x)
		more[i] = shard(x, x)
	}
}

func fillEdges(l []impl.Edge, x int) {
	l = l[:cap(l)]
	for i := range l {
		l[i] = edge(x, x, x)
	}
}

func TestGraphsAndEndsStayAsTheyAre(t *testing.T) {
	for _, g := range append(goodGraphs(), badGraphs()...) {
		room := append(slices.Clone(g.Edges), edge(7, 8, 9), edge(-1, -2, -3), edge(0, 0, 0))
		kept := slices.Clone(room)
		lent := impl.Graph{N: g.N, Edges: room[:len(g.Edges)]}
		for _, ends := range [][]int{nil, {0}, wantCut(g, 1), wantCut(g, 2), wantCut(g, 400), {g.N}, {3, 2, 1}} {
			lentEnds := append(slices.Clone(ends), 7, 8, 9, 151)
			keptEnds := slices.Clone(lentEnds)
			for _, size := range []int{math.MinInt, -1, 0, 1, 2, 399, 400, 401, math.MaxInt} {
				l := impl.Shards(lent, lentEnds[:len(ends)], size)
				if h, ok := impl.Joined(g.N, l); ok {
					fillEdges(h.Edges, 77)
				}
				fillShards(l, 78)
			}
			if lent.N != g.N || !slices.Equal(room, kept) || !slices.Equal(lentEnds, keptEnds) {
				t.Errorf("%s or %s is changed by Shards or through its result: %s, %s", brief(g), brief(ends), brief(room), brief(lentEnds))
			}
		}
	}
}

// checkShardsKept lends every shard with room behind its edges to the functions that take shards.
func checkShardsKept(t *testing.T, n int, l []impl.Shard) {
	t.Helper()
	lent := cloneShards(l)
	var rooms, kepts [][]impl.SEdge
	for i, s := range lent {
		room := append(slices.Clone(s.Edges), sedge(9, 8, 7, 6, 5), sedge(-1, -2, -3, -4, -5), sedge(0, 0, 0, 0, 0))
		rooms, kepts = append(rooms, room), append(kepts, slices.Clone(room))
		lent[i].Edges = room[:len(s.Edges)]
	}
	lent = append(lent, shard(150, 151), shard(77, 77))
	given := lent[:len(l)]
	for _, size := range []int{n - 1, n, n + 1, 0, -1, 151} {
		g, _ := impl.Joined(size, given)
		fillEdges(g.Edges, 79)
	}
	for _, s := range given {
		impl.ShardOk(s)
		impl.Window(s, 0, 150)
		impl.Window(s, 3, 2)
		impl.Window(s, math.MinInt, math.MaxInt)
	}
	for i := range l {
		same := given[i].Lo == l[i].Lo && given[i].Hi == l[i].Hi && len(given[i].Edges) == len(l[i].Edges) && cap(given[i].Edges) == cap(rooms[i])
		if !same || !slices.Equal(rooms[i], kepts[i]) {
			t.Errorf("shard %d of %s is changed by the functions that take it or through their results: %s, %s", i, brief(l), brief(given[i]), brief(rooms[i]))
		}
	}
	if !sameShard(lent[len(l)], shard(150, 151)) || !sameShard(lent[len(l)+1], shard(77, 77)) {
		t.Errorf("the room behind %s is changed: %s", brief(l), brief(lent[len(l):]))
	}
}

func TestGivenShardsStayAsTheyAre(t *testing.T) {
	r := rand.New(rand.NewSource(34))
	for _, g := range goodGraphs() {
		for _, ends := range divisionsOf(r, g) {
			checkShardsKept(t, g.N, wantShards(g, ends, 1))
		}
	}
	for _, s := range badShards() {
		checkShardsKept(t, 40, []impl.Shard{s})
		checkShardsKept(t, 43, []impl.Shard{s, shard(40, 43, sedge(0, 40, 0, 3, 0))})
	}
	for range 300 {
		n := 1 + r.Intn(9)
		l := wantShards(randomGraph(r, n, r.Intn(12)), randomEnds(r, n, 2), 1)
		more, spoilt := spoil(r, n, l)
		checkShardsKept(t, more, spoilt)
	}
}

// TestShardsAreNewMemory fills one shard with the room behind its edges, and then looks at all others.
func TestShardsAreNewMemory(t *testing.T) {
	r := rand.New(rand.NewSource(35))
	for _, g := range append(goodGraphs(), randomGraph(r, 20, 100), gathered(r, 9, 37)) {
		for _, ends := range divisionsOf(r, g) {
			want := wantShards(g, ends, 1)
			for _, size := range []int{1, 7, math.MaxInt} {
				other := impl.Shards(g, ends, size)
				for at := 0; at < len(want); at += 1 + len(want)/20 {
					got := impl.Shards(g, ends, size)
					fillSEdges(got[at].Edges, 76)
					got[at] = want[at]
					if !sameShards(got, want) {
						t.Errorf("with shard %d filled, Shards(%s, %s, %d) is %s", at, brief(g), brief(ends), size, brief(got))
					}
				}
				if !sameShards(other, want) {
					t.Errorf("Shards(%s, %s, %d) was changed through another result: %s", brief(g), brief(ends), size, brief(other))
				}
			}
		}
	}
}

func TestJoinedGraphsAreNewMemory(t *testing.T) {
	r := rand.New(rand.NewSource(36))
	for _, g := range append(goodGraphs(), randomGraph(r, 20, 100)) {
		for i, ends := range divisionsOf(r, g) {
			l := impl.Shards(g, ends, 3)
			first, _ := impl.Joined(g.N, l)
			second, _ := impl.Joined(g.N, l)
			fillEdges(first.Edges, -4)
			third, ok := impl.Joined(g.N, l)
			if !ok || !sameGraph(second, g) || !sameGraph(third, g) {
				t.Errorf("division %d of %s: what is joined shares memory or is kept: %s", i, brief(g), fmt.Sprint(ends))
			}
		}
	}
}
