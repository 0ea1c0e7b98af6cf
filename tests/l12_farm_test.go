package tests

import (
	"math"
	"math/rand"
	"slices"
	"testing"

	"loop.example/g00671/impl"
)

func farm(n int, ends []int, l ...impl.Shard) impl.Farm {
	return impl.Farm{N: n, Ends: ends, Shards: l}
}

func loc(shard, at int, e impl.SEdge) impl.Loc { return impl.Loc{Shard: shard, At: at, Edge: e} }

func subOf(l ...impl.Loc) impl.Sub { return impl.Sub{Locs: l} }

func sameFarm(a, b impl.Farm) bool {
	return a.N == b.N && slices.Equal(a.Ends, b.Ends) && sameShards(a.Shards, b.Shards)
}

func isNoFarm(f impl.Farm) bool { return sameFarm(f, impl.Farm{}) }

func cloneFarm(f impl.Farm) impl.Farm {
	return farm(f.N, slices.Clone(f.Ends), cloneShards(f.Shards)...)
}

func sameSub(a, b impl.Sub) bool {
	return a.P == b.P && a.Lo == b.Lo && a.Hi == b.Hi && a.Reads == b.Reads && slices.Equal(a.Locs, b.Locs)
}

func isNoSub(s impl.Sub) bool { return sameSub(s, impl.Sub{}) }

// divided is the farm of any division of a graph, with values.
func divided(g impl.Graph, ends []int, vals []int) impl.Farm {
	f := farm(g.N, ends, wantShards(g, ends, 1)...)
	for _, s := range f.Shards {
		for i := range s.Edges {
			s.Edges[i].Val = vals[s.Edges[i].Index]
		}
	}
	return f
}

// manyValues are different for different edges, from 0 to Far.
func manyValues(r *rand.Rand, m int) []int {
	l := make([]int, m)
	for i := range l {
		l[i] = i + 400*r.Intn(1<<31)
	}
	for _, x := range []int{0, 1, far - 1, far} {
		if m > 0 && r.Intn(2) == 0 {
			l[r.Intn(m)] = x
		}
	}
	return l
}

func edgesIn(f impl.Farm) (all []impl.SEdge) {
	for _, s := range f.Shards {
		all = append(all, s.Edges...)
	}
	slices.SortFunc(all, func(x, y impl.SEdge) int { return x.Index - y.Index })
	return all
}

func wantFarmOk(f impl.Farm) bool {
	if !wantEndsOk(f.N, f.Ends) || len(f.Shards) != len(f.Ends) {
		return false
	}
	for p, s := range f.Shards {
		if lo, hi := wantSpan(f.Ends, p); s.Lo != lo || s.Hi != hi {
			return false
		}
		if slices.ContainsFunc(s.Edges, func(e impl.SEdge) bool { return e.Val > far }) {
			return false
		}
	}
	_, ok := wantJoined(f.N, f.Shards)
	return ok
}

func wantFarmOf(g impl.Graph, budget, size int) (impl.Farm, bool) {
	if !wantGraphOk(g) || !within(budget-1, 399) || size < 1 {
		return impl.Farm{}, false
	}
	return divided(g, wantCut(g, budget), make([]int, len(g.Edges))), true
}

func wantFarmGraph(f impl.Farm) impl.Graph {
	if !wantFarmOk(f) {
		return impl.Graph{}
	}
	g := impl.Graph{N: f.N}
	for _, e := range edgesIn(f) {
		g.Edges = append(g.Edges, edge(e.From, e.To, e.W))
	}
	return g
}

func wantFarmVals(f impl.Farm) []int {
	if !wantFarmOk(f) {
		return nil
	}
	var l []int
	for _, e := range edgesIn(f) {
		l = append(l, e.Val)
	}
	return l
}

func wantFarmWith(f impl.Farm, vals []int) (impl.Farm, bool) {
	g := wantFarmGraph(f)
	if !wantFarmOk(f) || len(vals) != len(g.Edges) || slices.ContainsFunc(vals, func(x int) bool { return !within(x, far) }) {
		return impl.Farm{}, false
	}
	return divided(g, slices.Clone(f.Ends), vals), true
}

// locate looks for the edge with this Index in all shards.
func locate(f impl.Farm, index int) impl.Loc {
	for q, s := range f.Shards {
		for at, e := range s.Edges {
			if e.Index == index {
				return loc(q, at, e)
			}
		}
	}
	return loc(-1, -1, impl.SEdge{})
}

// wantLoad does not look at windows, but at both ends of every edge, one edge after the other.
func wantLoad(f impl.Farm, p int) (impl.Sub, bool) {
	if !wantFarmOk(f) || !within(p, len(f.Ends)-1) {
		return impl.Sub{}, false
	}
	s := impl.Sub{P: p}
	s.Lo, s.Hi = wantSpan(f.Ends, p)
	read := map[int]bool{p: true}
	for _, e := range edgesIn(f) {
		to, from := wantIntervalOf(f.Ends, e.To), wantIntervalOf(f.Ends, e.From)
		if to == p || from == p {
			s.Locs = append(s.Locs, locate(f, e.Index))
			read[to] = true
		}
	}
	s.Reads = len(read)
	return s, true
}

// wantPut takes the edges for a map from locations, in which an edge without its value is looked up.
func wantPut(f impl.Farm, s impl.Sub) (impl.Farm, bool) {
	if !wantFarmOk(f) {
		return impl.Farm{}, false
	}
	places := map[impl.Loc]*impl.SEdge{}
	out := cloneFarm(f)
	for q := range out.Shards {
		for at := range out.Shards[q].Edges {
			e := &out.Shards[q].Edges[at]
			places[loc(q, at, sedge(e.From, e.To, e.W, e.Index, 0))] = e
		}
	}
	for _, x := range s.Locs {
		val := x.Edge.Val
		x.Edge.Val = 0
		e := places[x]
		if e == nil || !within(val, far) {
			return impl.Farm{}, false
		}
		e.Val = val
	}
	return out, true
}

// wantResidents counts an edge for the intervals of both its ends, but only once for one interval.
func wantResidents(f impl.Farm) []int {
	if !wantFarmOk(f) {
		return nil
	}
	l := make([]int, len(f.Ends))
	for _, e := range edgesIn(f) {
		to, from := wantIntervalOf(f.Ends, e.To), wantIntervalOf(f.Ends, e.From)
		l[to]++
		if from != to {
			l[from]++
		}
	}
	return l
}

func checkFarmOk(t *testing.T, what string, f impl.Farm, want bool) {
	t.Helper()
	if got, model := impl.FarmOk(f), wantFarmOk(f); got != want || model != want {
		t.Errorf("%s: FarmOk(%s) = %v, want %v (by the model %v)", what, brief(f), got, want, model)
	}
}

func checkFarmOf(t *testing.T, what string, g impl.Graph, budget, size int, want bool) impl.Farm {
	t.Helper()
	got, ok := impl.FarmOf(g, budget, size)
	model, modelOk := wantFarmOf(g, budget, size)
	if !sameFarm(got, model) || ok != want || modelOk != want {
		t.Errorf("%s: FarmOf(%s, %d, %d) = %s, %v, want %s, %v (by the model %v)", what, brief(g), budget, size, brief(got), ok, brief(model), want, modelOk)
	}
	return model
}

func checkFarmWith(t *testing.T, what string, f impl.Farm, vals []int, want bool) {
	t.Helper()
	got, ok := impl.FarmWith(f, vals)
	model, modelOk := wantFarmWith(f, vals)
	if !sameFarm(got, model) || ok != want || modelOk != want {
		t.Errorf("%s: FarmWith(%s, %s) = %s, %v, want %s, %v (by the model %v)", what, brief(f), brief(vals), brief(got), ok, brief(model), want, modelOk)
	}
	if want && (!impl.FarmOk(got) || !slices.Equal(impl.FarmVals(got), vals)) {
		t.Errorf("%s: %s is not found in %s", what, brief(vals), brief(got))
	}
}

// checkLoad returns what the model loads.
func checkLoad(t *testing.T, what string, f impl.Farm, p int, want bool) impl.Sub {
	t.Helper()
	got, ok := impl.Load(f, p)
	model, modelOk := wantLoad(f, p)
	if !sameSub(got, model) || ok != want || modelOk != want {
		t.Errorf("%s: Load(%s, %d) = %s, %v, want %s, %v (by the model %v)", what, brief(f), p, brief(got), ok, brief(model), want, modelOk)
	}
	return model
}

func checkPut(t *testing.T, what string, f impl.Farm, s impl.Sub, want bool) {
	t.Helper()
	got, ok := impl.Put(f, s)
	model, modelOk := wantPut(f, s)
	if !sameFarm(got, model) || ok != want || modelOk != want {
		t.Errorf("%s: Put(%s, %s) = %s, %v, want %s, %v (by the model %v)", what, brief(f), brief(s), brief(got), ok, brief(model), want, modelOk)
	}
	if want && !impl.FarmOk(got) {
		t.Errorf("%s: Put(%s, %s) is not valid", what, brief(f), brief(s))
	}
}

// checkGround checks what the promise P2 says of one Sub, with another look at the edges than the model's.
func checkGround(t *testing.T, what string, f impl.Farm, s impl.Sub) {
	t.Helper()
	lo, hi := wantSpan(f.Ends, s.P)
	in := func(v int) bool { return v >= lo && v < hi }
	count, others := 0, 0
	for q, x := range f.Shards {
		here := 0
		for at, e := range x.Edges {
			if !in(e.From) && !in(e.To) {
				continue
			}
			here++
			if !slices.Contains(s.Locs, loc(q, at, e)) {
				t.Errorf("%s: edge %d of shard %d is not in %s", what, at, q, brief(s))
			}
		}
		count += here
		if q != s.P && here > 0 {
			others++
		}
	}
	ascends := slices.IsSortedFunc(s.Locs, func(x, y impl.Loc) int { return x.Edge.Index - y.Edge.Index })
	if len(s.Locs) != count || !ascends || s.Lo != lo || s.Hi != hi || s.Reads != 1+others || s.Reads > len(f.Ends) {
		t.Errorf("%s: %d edges, %d other windows and %d intervals, but %s", what, count, others, len(f.Ends), brief(s))
	}
}

// checkPutBack checks what the promise P6 says of one interval.
func checkPutBack(t *testing.T, what string, f impl.Farm, s impl.Sub) {
	t.Helper()
	if got, ok := impl.Put(f, s); !ok || !sameFarm(got, f) {
		t.Errorf("%s: Put of Load(%s, %d) = %s, %v", what, brief(f), s.P, brief(got), ok)
	}
	vals := wantFarmVals(f)
	for i := range s.Locs {
		e := &s.Locs[i].Edge
		e.Val = (e.Val + 12345) % (far + 1)
		vals[e.Index] = e.Val
	}
	got, ok := impl.Put(f, s)
	if want, _ := wantFarmWith(f, vals); !ok || !sameFarm(got, want) {
		t.Errorf("%s: Put(%s, %s) = %s, %v, want %s", what, brief(f), brief(s), brief(got), ok, brief(want))
	}
	if !slices.Equal(impl.FarmVals(got), vals) || !sameGraph(impl.FarmGraph(got), wantFarmGraph(f)) {
		t.Errorf("%s: Put(%s, %s) does not leave %s", what, brief(f), brief(s), brief(vals))
	}
}

func notIntervals(count int) []int {
	return []int{math.MinInt, -1 << 32, -count, -1, count, count + 1, 150, 1 << 32, 1<<32 + count - 1, math.MaxInt}
}

// checkFarm checks all functions for a valid farm; of more intervals than most it only loads some.
func checkFarm(t *testing.T, what string, f impl.Farm, most int) {
	t.Helper()
	checkFarmOk(t, what, f, true)
	if got, want := impl.FarmGraph(f), wantFarmGraph(f); !sameGraph(got, want) || !impl.GraphOk(got) {
		t.Errorf("%s: FarmGraph(%s) = %s, want %s", what, brief(f), brief(got), brief(want))
	}
	vals := wantFarmVals(f)
	if got := impl.FarmVals(f); !slices.Equal(got, vals) {
		t.Errorf("%s: FarmVals(%s) = %s, want %s", what, brief(f), brief(got), brief(vals))
	}
	slices.Reverse(vals)
	checkFarmWith(t, what, f, vals, true)
	checkFarmWith(t, what, f, append(vals, 0), false)
	count := len(f.Ends)
	step := max(count/most, 1)
	for p := 0; p < count; p += step {
		checkLoad(t, what, f, p, true)
		s, _ := impl.Load(f, p)
		checkGround(t, what, f, s)
		checkPutBack(t, what, f, s)
	}
	for _, p := range notIntervals(count) {
		if p < 0 || p >= count {
			checkLoad(t, what, f, p, false)
		}
	}
	checkPut(t, what, f, impl.Sub{}, true)
	checkResidents(t, what, f)
}

func checkResidents(t *testing.T, what string, f impl.Farm) {
	t.Helper()
	got, want := impl.Residents(f), wantResidents(f)
	if !slices.Equal(got, want) {
		t.Errorf("%s: Residents(%s) = %s, want %s", what, brief(f), brief(got), brief(want))
	}
}

// checkNoFarm checks all functions for a farm that is not valid.
func checkNoFarm(t *testing.T, what string, f impl.Farm) {
	t.Helper()
	checkFarmOk(t, what, f, false)
	if got := impl.FarmGraph(f); !sameGraph(got, impl.Graph{}) {
		t.Errorf("%s: FarmGraph(%s) = %s", what, brief(f), brief(got))
	}
	if vals, counts := impl.FarmVals(f), impl.Residents(f); vals != nil || counts != nil {
		t.Errorf("%s: FarmVals(%s) = %s and Residents = %s", what, brief(f), brief(vals), brief(counts))
	}
	m := 0
	for _, s := range f.Shards {
		m += len(s.Edges)
	}
	for _, vals := range [][]int{nil, {0}, make([]int, m), make([]int, 400)} {
		checkFarmWith(t, what, f, vals, false)
	}
	for _, p := range append(notIntervals(len(f.Ends)), 0, 1, len(f.Ends)-1, len(f.Shards)-1) {
		checkLoad(t, what, f, p, false)
	}
	checkPut(t, what, f, impl.Sub{}, false)
	for q, s := range f.Shards {
		if len(s.Edges) > 0 {
			checkPut(t, what, f, subOf(loc(q, 0, s.Edges[0])), false)
			return
		}
	}
}

// checkFarmsOf checks the promises for a graph and these budgets and sizes.
func checkFarmsOf(t *testing.T, what string, g impl.Graph, most int, budgets, sizes []int) {
	t.Helper()
	for _, budget := range budgets {
		var f impl.Farm
		for _, size := range sizes {
			f = checkFarmOf(t, what, g, budget, size, true)
			made, _ := impl.FarmOf(g, budget, size)
			if got := impl.FarmGraph(made); !sameGraph(got, g) {
				t.Errorf("%s: the graph of FarmOf(%s, %d, %d) is %s", what, brief(g), budget, size, brief(got))
			}
		}
		checkFarm(t, what, f, most)
	}
}

func TestFarmsOfGoodGraphs(t *testing.T) {
	r := rand.New(rand.NewSource(91))
	for _, g := range goodGraphs() {
		checkFarmsOf(t, "a valid graph", g, 20, []int{1, 2, 3, 7, 399, 400}, []int{1, 2, 7, 399, 400, 401, math.MaxInt})
		for _, ends := range divisionsOf(r, g) {
			checkFarm(t, "a valid graph", divided(g, ends, manyValues(r, len(g.Edges))), 20)
		}
	}
}

func TestFarmsOfEverySmallGraph(t *testing.T) {
	r := rand.New(rand.NewSource(92))
	for n, m := range []int{2, 4, 3, 2, 2} {
		divisions := everyDivision(n)
		everyGraph(n, m, func(g impl.Graph) {
			checkFarmsOf(t, "a small graph", g, 9, []int{1, 2}, []int{1, 3})
			for _, ends := range divisions {
				checkFarm(t, "a small graph", divided(g, ends, manyValues(r, len(g.Edges))), 9)
			}
		})
	}
}

func TestFarmsOfGraphsOfEverySize(t *testing.T) {
	r := rand.New(rand.NewSource(93))
	for n := range 151 {
		for _, m := range []int{0, 1 + r.Intn(9), n, r.Intn(401)} {
			g := randomGraph(r, n, m)
			checkFarmsOf(t, "a graph of some size", g, 3, []int{1 + r.Intn(9), 1 + r.Intn(400)}, []int{1 + r.Intn(401)})
			divisions := divisionsOf(r, g)
			ends := divisions[r.Intn(len(divisions))]
			checkFarm(t, "a graph of some size", divided(g, ends, manyValues(r, len(g.Edges))), 3)
		}
	}
}

func TestFarmsWithTheMostEdges(t *testing.T) {
	r := rand.New(rand.NewSource(94))
	for _, g := range []impl.Graph{randomGraph(r, 150, 400), gathered(r, 150, 400), randomGraph(r, 2, 400), randomGraph(r, 1, 400), sameEdges(150, 400, edge(149, 0, 1)), ring(150)} {
		checkFarmsOf(t, "many edges", g, 30, []int{1, 2, 40, 400}, []int{1, 50})
		for _, ends := range divisionsOf(r, g) {
			checkFarm(t, "many edges", divided(g, ends, manyValues(r, len(g.Edges))), 10)
		}
	}
}

func TestFarmsOfEveryBudget(t *testing.T) {
	r := rand.New(rand.NewSource(95))
	for _, g := range []impl.Graph{randomGraph(r, 30, 400), gathered(r, 60, 300), arriving(5, 0, 0, 30, 1, 364)} {
		for budget := 1; budget <= 400; budget++ {
			f := checkFarmOf(t, "every budget", g, budget, 1+r.Intn(400), true)
			checkResidents(t, "every budget", f)
			checkBudget(t, g, f, budget)
		}
	}
}

// checkBudget checks that an interval has no more incoming edges than the budget or consists of one vertex.
func checkBudget(t *testing.T, g impl.Graph, f impl.Farm, budget int) {
	t.Helper()
	reads := 0
	for p, s := range f.Shards {
		if len(s.Edges) > budget && s.Hi-s.Lo > 1 {
			t.Errorf("shard %d of %s with budget %d has %d edges", p, brief(g), budget, len(s.Edges))
		}
		sub, _ := impl.Load(f, p)
		reads += sub.Reads
	}
	if reads > len(f.Ends)*len(f.Ends) {
		t.Errorf("%d windows of %s are read for %d intervals", reads, brief(g), len(f.Ends))
	}
}

func TestEverySizeForAFarm(t *testing.T) {
	r := rand.New(rand.NewSource(96))
	for _, g := range []impl.Graph{graph(0), graph(9), randomGraph(r, 20, 60), randomGraph(r, 150, 400)} {
		for _, size := range append(upTo(len(g.Edges)+3, 3), 1, 2, 1<<32, 1<<32+1, math.MaxInt-1, math.MaxInt) {
			checkFarmOf(t, "every size", g, 5, size, true)
		}
		for _, size := range notSizes(len(g.Edges)) {
			for _, budget := range []int{0, 1, 5, 400, 401} {
				checkFarmOf(t, "a size that is none", g, budget, size, false)
			}
		}
	}
}

func TestNoFarmsWithoutAGraphAndABudget(t *testing.T) {
	for _, g := range badGraphs() {
		for _, budget := range append([]int{1, 2, 399, 400}, notBudgets...) {
			for _, size := range []int{1, 2, 400, math.MaxInt, 0, math.MinInt} {
				checkFarmOf(t, "a graph that is not valid", g, budget, size, false)
			}
		}
	}
	for _, g := range append(goodGraphs(), crossing()) {
		for _, budget := range notBudgets {
			for _, size := range []int{1, 2, 400, math.MaxInt, 0, -1} {
				checkFarmOf(t, "a budget that is none", g, budget, size, false)
			}
		}
	}
}

// twoComponents has intervals between which no edge leads, a self-loop and parallel edges.
func twoComponents() impl.Graph {
	return graph(7, edge(5, 4, 1), edge(1, 0, 2), edge(0, 0, 3), edge(4, 5, 4), edge(0, 2, 5), edge(4, 5, 4), edge(6, 6, 6), edge(2, 1, 7))
}

func TestFarmKnown(t *testing.T) {
	f, ok := impl.FarmOf(twoComponents(), 2, 3)
	toFirst := []impl.SEdge{sedge(0, 0, 3, 2, 0), sedge(1, 0, 2, 1, 0)}
	toSecond := []impl.SEdge{sedge(0, 2, 5, 4, 0), sedge(2, 1, 7, 7, 0)}
	toThird := []impl.SEdge{sedge(5, 4, 1, 0, 0)}
	toFourth := []impl.SEdge{sedge(4, 5, 4, 3, 0), sedge(4, 5, 4, 5, 0)}
	toLast := []impl.SEdge{sedge(6, 6, 6, 6, 0)}
	want := farm(7, []int{1, 4, 5, 6, 7}, shard(0, 1, toFirst...), shard(1, 4, toSecond...), shard(4, 5, toThird...), shard(5, 6, toFourth...), shard(6, 7, toLast...))
	if !ok || !sameFarm(f, want) || !impl.FarmOk(want) || !impl.FarmOk(f) {
		t.Errorf("the farm is %s, %v, want %s", brief(f), ok, brief(want))
	}
	if g := impl.FarmGraph(want); !sameGraph(g, twoComponents()) {
		t.Errorf("the graph is %s", brief(g))
	}
	if l := impl.Residents(want); !slices.Equal(l, []int{3, 3, 3, 3, 1}) {
		t.Errorf("the residents are %v", l)
	}
	valued, ok := impl.FarmWith(want, []int{20, 21, 22, 23, 24, 25, 26, 27})
	if l := impl.FarmVals(valued); !ok || !slices.Equal(l, []int{20, 21, 22, 23, 24, 25, 26, 27}) || !slices.Equal(impl.FarmVals(want), times(8, 0)) {
		t.Errorf("the values are %v", l)
	}
	for p, s := range []impl.Sub{
		{P: 0, Lo: 0, Hi: 1, Reads: 2, Locs: []impl.Loc{loc(0, 1, sedge(1, 0, 2, 1, 21)), loc(0, 0, sedge(0, 0, 3, 2, 22)), loc(1, 0, sedge(0, 2, 5, 4, 24))}},
		{P: 1, Lo: 1, Hi: 4, Reads: 2, Locs: []impl.Loc{loc(0, 1, sedge(1, 0, 2, 1, 21)), loc(1, 0, sedge(0, 2, 5, 4, 24)), loc(1, 1, sedge(2, 1, 7, 7, 27))}},
		{P: 2, Lo: 4, Hi: 5, Reads: 2, Locs: []impl.Loc{loc(2, 0, sedge(5, 4, 1, 0, 20)), loc(3, 0, sedge(4, 5, 4, 3, 23)), loc(3, 1, sedge(4, 5, 4, 5, 25))}},
		{P: 3, Lo: 5, Hi: 6, Reads: 2, Locs: []impl.Loc{loc(2, 0, sedge(5, 4, 1, 0, 20)), loc(3, 0, sedge(4, 5, 4, 3, 23)), loc(3, 1, sedge(4, 5, 4, 5, 25))}},
		{P: 4, Lo: 6, Hi: 7, Reads: 1, Locs: []impl.Loc{loc(4, 0, sedge(6, 6, 6, 6, 26))}},
	} {
		if got, ok := impl.Load(valued, p); !ok || !sameSub(got, s) {
			t.Errorf("Load(%d) = %s, %v, want %s", p, brief(got), ok, brief(s))
		}
	}
	checkFarm(t, "a known farm", valued, 9)
}

// soundFarms have edges within and between intervals in both directions, and self-loops.
func soundFarms() []impl.Farm {
	r := rand.New(rand.NewSource(97))
	busy := randomGraph(r, 150, 40)
	return []impl.Farm{
		divided(crossing(), []int{2, 3, 4}, []int{10, 0, far, 13, 14, 15}),
		divided(twoComponents(), []int{1, 4, 5, 6, 7}, upTo(8, 1)),
		divided(graph(3, edge(0, 1, 1), edge(2, 2, 1)), []int{3}, []int{far - 1, 7}),
		divided(busy, []int{60, 61, 149, 150}, manyValues(r, 40)),
	}
}

// spoiledFarm is a farm in which one thing has been changed, so that it is not valid.
type spoiledFarm struct {
	what string
	f    impl.Farm
}

// spoiledWith makes copies of f, each changed by one of the changes.
func spoiledWith(what string, f impl.Farm, changes ...func(x *impl.Farm)) []spoiledFarm {
	var l []spoiledFarm
	for _, change := range changes {
		other := cloneFarm(f)
		change(&other)
		l = append(l, spoiledFarm{what, other})
	}
	return l
}

func spoiledEnds(f impl.Farm) []spoiledFarm {
	var l []spoiledFarm
	last := len(f.Ends) - 1
	for _, n := range append([]int{f.N - 1, f.N + 1, 0, 151, 1<<32 + f.N, -f.N}, notIntervals(len(f.Ends))...) {
		if n != f.N {
			l = append(l, spoiledWith("the number of vertices", f, func(x *impl.Farm) { x.N = n })...)
			l = append(l, spoiledWith("the number of vertices and the last end", f, func(x *impl.Farm) { x.N, x.Ends[last] = n, n })...)
		}
	}
	for p, end := range f.Ends {
		for _, x := range []int{math.MinInt, -end, 0, end - 1, end + 1, f.N + 1, 1<<32 + end, math.MaxInt} {
			l = append(l, spoiledWith("an end", f, func(y *impl.Farm) { y.Ends[p] = x })...)
		}
		l = append(l, spoiledWith("an end twice", f, func(x *impl.Farm) { x.Ends = slices.Insert(x.Ends, p, end) })...)
		l = append(l, spoiledWith("an end too few", f, func(x *impl.Farm) { x.Ends = slices.Delete(x.Ends, p, p+1) })...)
	}
	for end := 1; end < f.N; end++ {
		if at, found := slices.BinarySearch(f.Ends, end); !found {
			l = append(l, spoiledWith("an end too many", f, func(x *impl.Farm) { x.Ends = slices.Insert(x.Ends, at, end) })...)
		}
	}
	return append(l, spoiledWith("no ends", f, func(x *impl.Farm) { x.Ends = nil }, func(x *impl.Farm) { x.N, x.Ends = 0, nil })...)
}

func spoiledShards(f impl.Farm) []spoiledFarm {
	l := spoiledWith("no shards", f, func(x *impl.Farm) { x.Shards = nil })
	for p, s := range f.Shards {
		l = append(l, spoiledWith("a shard too few", f, func(x *impl.Farm) { x.Shards = slices.Delete(x.Shards, p, p+1) })...)
		l = append(l, spoiledWith("a shard twice", f, func(x *impl.Farm) { x.Shards = slices.Insert(x.Shards, p, s) })...)
		l = append(l, spoiledWith("an empty shard", f, func(x *impl.Farm) { x.Shards = slices.Insert(x.Shards, p, shard(s.Lo, s.Lo)) })...)
		l = append(l, spoiledWith("a shard that is the zero value", f, func(x *impl.Farm) { x.Shards[p] = impl.Shard{} })...)
		for q := range p {
			l = append(l, spoiledWith("two shards exchanged", f, func(x *impl.Farm) { x.Shards[p], x.Shards[q] = x.Shards[q], x.Shards[p] })...)
		}
		for _, x := range []int{math.MinInt, -1, s.Lo - 1, s.Lo + 1, s.Hi - 1, s.Hi + 1, 151, 1<<32 + s.Lo, 1<<32 + s.Hi, math.MaxInt} {
			if x != s.Lo {
				l = append(l, spoiledWith("a Lo", f, func(y *impl.Farm) { y.Shards[p].Lo = x })...)
			}
			if x != s.Hi {
				l = append(l, spoiledWith("a Hi", f, func(y *impl.Farm) { y.Shards[p].Hi = x })...)
			}
		}
	}
	more := []impl.Shard{{}, shard(f.N, f.N), shard(f.N, f.N+1), shard(0, f.N), shard(149, 150)}
	for _, s := range more {
		l = append(l, spoiledWith("a shard too many", f, func(x *impl.Farm) { x.Shards = append(x.Shards, s) })...)
	}
	return l
}

// movedEnds are farms whose shards belong to another division than their ends; without edges both divisions fit.
func movedEnds() []spoiledFarm {
	var l []spoiledFarm
	for _, ends := range everyDivision(4) {
		for _, other := range everyDivision(4) {
			if !slices.Equal(ends, other) {
				bare := divided(graph(4), ends, nil)
				bare.Ends = other
				l = append(l, spoiledFarm{"the shards of another division", bare})
			}
		}
	}
	return l
}

func spoiledFarmEdges(f impl.Farm) []spoiledFarm {
	var l []spoiledFarm
	count := len(edgesIn(f))
	for p, s := range f.Shards {
		for at, e := range s.Edges {
			for _, limits := range fieldLimits {
				for _, x := range []int{math.MinInt, -1, max(limits.most+1, 150), math.MaxInt} {
					l = append(l, spoiledWith("an edge that is not valid", f, func(y *impl.Farm) { limits.set(&y.Shards[p].Edges[at], x) })...)
				}
			}
			for _, val := range notUpTo(far) {
				l = append(l, spoiledWith("a value", f, func(x *impl.Farm) { x.Shards[p].Edges[at].Val = val })...)
			}
			if f.N < 150 {
				l = append(l, spoiledWith("a From that is no vertex", f, func(x *impl.Farm) { x.Shards[p].Edges[at].From = f.N }, func(x *impl.Farm) { x.Shards[p].Edges[at].From = 149 })...)
			}
			for _, index := range []int{count, count + 1, 399, (e.Index + 1) % count} {
				if index != e.Index {
					l = append(l, spoiledWith("an Index", f, func(x *impl.Farm) { x.Shards[p].Edges[at].Index = index })...)
				}
			}
			for _, to := range []int{s.Lo - 1, s.Hi} {
				l = append(l, spoiledWith("a To in another interval", f, func(x *impl.Farm) { x.Shards[p].Edges[at].To = to })...)
			}
			if e.Index < count-1 {
				l = append(l, spoiledWith("an edge too few", f, func(x *impl.Farm) { x.Shards[p].Edges = slices.Delete(x.Shards[p].Edges, at, at+1) })...)
			}
			l = append(l, spoiledWith("an edge twice", f, func(x *impl.Farm) { x.Shards[p].Edges = slices.Insert(x.Shards[p].Edges, at, e) })...)
			if at > 0 {
				l = append(l, spoiledWith("edges out of order", f, func(x *impl.Farm) { x.Shards[p].Edges[at-1], x.Shards[p].Edges[at] = e, s.Edges[at-1] })...)
			}
		}
	}
	return l
}

func spoiledFarms() []spoiledFarm {
	l := movedEnds()
	for _, f := range soundFarms() {
		l = slices.Concat(l, spoiledEnds(f), spoiledShards(f), spoiledFarmEdges(f))
	}
	return l
}

func TestFarmsThatAreNotValid(t *testing.T) {
	for _, f := range soundFarms() {
		checkFarm(t, "sound", f, 9)
	}
	for i, s := range spoiledFarms() {
		checkFarmOk(t, s.what, s.f, false)
		if i%7 == 0 {
			checkNoFarm(t, s.what, s.f)
		}
	}
}

func TestFarmsWithoutVertices(t *testing.T) {
	for _, f := range []impl.Farm{{}, {Ends: []int{}, Shards: []impl.Shard{}}} {
		checkFarm(t, "no vertices", f, 1)
		checkFarmWith(t, "no vertices", f, []int{}, true)
		checkLoad(t, "no vertices", f, 0, false)
		if vals, counts := impl.FarmVals(f), impl.Residents(f); len(vals) != 0 || len(counts) != 0 {
			t.Errorf("the values are %v and the residents %v", vals, counts)
		}
		if put, ok := impl.Put(f, impl.Sub{P: 3, Lo: 4, Hi: 5, Reads: 6}); !ok || !isNoFarm(put) {
			t.Errorf("Put = %s, %v", brief(put), ok)
		}
		checkPut(t, "no vertices", f, subOf(impl.Loc{}), false)
	}
	for _, f := range []impl.Farm{farm(0, []int{0}), farm(0, nil, impl.Shard{}), farm(0, []int{0}, impl.Shard{}), farm(0, nil, shard(0, 1)), farm(1, nil), farm(1, []int{1}), farm(1, nil, shard(0, 1)), farm(-1, nil)} {
		checkNoFarm(t, "almost no vertices", f)
	}
	for _, budget := range []int{1, 2, 400} {
		for _, size := range []int{1, 2, math.MaxInt} {
			if f, ok := impl.FarmOf(graph(0), budget, size); !ok || !isNoFarm(f) {
				t.Errorf("FarmOf(%d, %d) = %s, %v", budget, size, brief(f), ok)
			}
		}
	}
}

func TestFarmsWithVeryManyShards(t *testing.T) {
	f := soundFarms()[0]
	for _, l := range [][]impl.Shard{slices.Repeat(f.Shards, 50000), make([]impl.Shard, 100000), append(slices.Clone(f.Shards), make([]impl.Shard, 100000)...)} {
		checkFarmOk(t, "very many shards", farm(f.N, f.Ends, l...), false)
		checkFarmOk(t, "very many shards and ends", farm(f.N, upTo(len(l), 1), l...), false)
	}
	crowded := divided(sameEdges(3, 400, edge(0, 1, 1)), []int{1, 3}, make([]int, 400))
	checkFarm(t, "as many edges as there may be", crowded, 9)
	crowded.Shards[0].Edges = []impl.SEdge{sedge(1, 0, 0, 399, 0)}
	checkNoFarm(t, "one edge more in another shard", crowded)
	crowded.Shards[1].Edges = crowded.Shards[1].Edges[:399]
	checkFarm(t, "as many edges in two shards", crowded, 9)
}

func TestValuesOfEdgesAreUpToFar(t *testing.T) {
	for _, f := range soundFarms() {
		for p := range f.Shards {
			for at := range f.Shards[p].Edges {
				for _, val := range append([]int{0, 1, far - 1, far}, notUpTo(far)...) {
					other := cloneFarm(f)
					other.Shards[p].Edges[at].Val = val
					checkFarmOk(t, "a value", other, within(val, far))
				}
			}
		}
	}
}

func TestFarmWithEveryNumberOfValues(t *testing.T) {
	r := rand.New(rand.NewSource(98))
	for _, f := range append(soundFarms(), divided(graph(5), []int{2, 5}, nil), divided(randomGraph(r, 9, 400), []int{4, 9}, manyValues(r, 400))) {
		m := len(edgesIn(f))
		for count := range 403 {
			if within(count-m+2, 4) || count < 3 || count > 398 {
				checkFarmWith(t, "a number of values", f, manyValues(r, count), count == m)
			}
		}
		if m > 0 {
			checkFarmWith(t, "one value too few", f, make([]int, m-1), false)
			checkFarmWith(t, "no values", f, nil, false)
		}
		checkFarmWith(t, "one value too many", f, make([]int, m+1), false)
	}
}

func TestFarmWithValuesUpToFar(t *testing.T) {
	for _, f := range soundFarms() {
		m := len(edgesIn(f))
		for at := range m {
			for _, val := range append([]int{0, 1, far - 1, far}, notUpTo(far)...) {
				vals := upTo(m, 1)
				vals[at] = val
				checkFarmWith(t, "a value", f, vals, within(val, far))
			}
		}
	}
}

func TestValuesReplaceOthers(t *testing.T) {
	f := soundFarms()[0]
	for _, vals := range [][]int{{1, 2, 3, 4, 5, 6}, {6, 5, 4, 3, 2, 1}, times(6, far), times(6, 0)} {
		next, ok := impl.FarmWith(f, vals)
		if got := impl.FarmVals(next); !ok || !slices.Equal(got, vals) {
			t.Errorf("the values are %v, want %v", got, vals)
		}
		f = next
	}
}

func TestLoadKnown(t *testing.T) {
	f := soundFarms()[0]
	for p, want := range []struct{ reads, first, last, count int }{{2, 2, 4, 3}, {3, 0, 5, 5}, {2, 1, 5, 2}} {
		s, ok := impl.Load(f, p)
		if !ok || s.Reads != want.reads || len(s.Locs) != want.count || s.Locs[0].Edge.Index != want.first || s.Locs[len(s.Locs)-1].Edge.Index != want.last {
			t.Errorf("Load(%s, %d) = %s, %v", brief(f), p, brief(s), ok)
		}
	}
	for _, p := range append(notIntervals(3), 3, 4) {
		if s, ok := impl.Load(f, p); ok || !isNoSub(s) {
			t.Errorf("Load(%d) = %s, %v", p, brief(s), ok)
		}
	}
	// Nothing leads to the vertex 0, so the shard of interval 0 is read although it is empty.
	away := divided(graph(3, edge(0, 2, 5), edge(0, 1, 6)), []int{1, 2, 3}, []int{7, 8})
	if s, ok := impl.Load(away, 0); !ok || s.Reads != 3 || !slices.Equal(s.Locs, []impl.Loc{loc(2, 0, sedge(0, 2, 5, 0, 7)), loc(1, 0, sedge(0, 1, 6, 1, 8))}) {
		t.Errorf("Load(%s, 0) = %s, %v", brief(away), brief(s), ok)
	}
	for p, want := range []int{3, 1, 1} {
		if s, _ := impl.Load(away, p); s.Reads != want || len(s.Locs) != []int{2, 1, 1}[p] {
			t.Errorf("Load(%s, %d) = %s", brief(away), p, brief(s))
		}
	}
	loops := divided(graph(2, edge(1, 1, 5), edge(1, 1, 5), edge(0, 0, 3)), []int{1, 2}, []int{7, 8, 9})
	if s, ok := impl.Load(loops, 1); !ok || s.Reads != 1 || !slices.Equal(s.Locs, []impl.Loc{loc(1, 0, sedge(1, 1, 5, 0, 7)), loc(1, 1, sedge(1, 1, 5, 1, 8))}) {
		t.Errorf("Load(%s, 1) = %s, %v", brief(loops), brief(s), ok)
	}
	bare := divided(graph(3), []int{1, 3}, nil)
	if s, ok := impl.Load(bare, 1); !ok || !sameSub(s, impl.Sub{P: 1, Lo: 1, Hi: 3, Reads: 1}) {
		t.Errorf("Load(%s, 1) = %s, %v", brief(bare), brief(s), ok)
	}
	checkFarm(t, "edges from one vertex", away, 9)
	checkFarm(t, "loops", loops, 9)
	checkFarm(t, "no edges", bare, 9)
}

// TestReadsOfEveryInterval has every interval read as many windows as possible, and as few.
func TestReadsOfEveryInterval(t *testing.T) {
	for n := 1; n <= 20; n++ {
		all, own := graph(n), graph(n)
		for v := range n {
			own.Edges = append(own.Edges, edge(v, v, 1))
			for u := range n {
				all.Edges = append(all.Edges, edge(v, u, 1))
			}
		}
		for _, ends := range [][]int{upTo(n, 1), {n}} {
			for p := range ends {
				most, _ := impl.Load(divided(all, ends, make([]int, n*n)), p)
				least, _ := impl.Load(divided(own, ends, make([]int, n)), p)
				none, _ := impl.Load(divided(graph(n), ends, nil), p)
				if most.Reads != len(ends) || least.Reads != 1 || none.Reads != 1 || len(none.Locs) != 0 {
					t.Errorf("%d intervals: %d, %d and %d windows are read", len(ends), most.Reads, least.Reads, none.Reads)
				}
			}
		}
	}
}

// otherThan changes one field of a location in every way that makes another edge or another place of it.
func otherThan(x impl.Loc) []impl.Loc {
	var l []impl.Loc
	for _, by := range []int{math.MinInt, -1 << 32, -150, -2, -1, 1, 2, 150, 399, 1 << 32, math.MaxInt} {
		more := slices.Repeat([]impl.Loc{x}, 6)
		more[0].Shard += by
		more[1].At += by
		more[2].Edge.From += by
		more[3].Edge.To += by
		more[4].Edge.W += by
		more[5].Edge.Index += by
		l = append(l, more...)
	}
	return l
}

func TestPutNeedsTheEdgeAtItsLocation(t *testing.T) {
	for _, f := range soundFarms() {
		s := impl.Sub{}
		for i := range edgesIn(f) {
			s.Locs = append(s.Locs, locate(f, i))
		}
		checkPut(t, "all edges", f, s, true)
		for i, x := range s.Locs {
			checkPut(t, "one edge", f, subOf(x), true)
			for _, y := range otherThan(x) {
				checkPut(t, "another edge or place alone", f, subOf(y), false)
				s.Locs[i] = y
				checkPut(t, "another edge or place", f, s, false)
			}
			for _, val := range append([]int{0, 1, far - 1, far}, notUpTo(far)...) {
				y := x
				y.Edge.Val = val
				checkPut(t, "a value alone", f, subOf(y), within(val, far))
				s.Locs[i] = y
				checkPut(t, "a value", f, s, within(val, far))
			}
			s.Locs[i] = x
		}
	}
}

func TestPutNeedsALocation(t *testing.T) {
	for _, f := range soundFarms() {
		count := len(f.Shards)
		for q, s := range f.Shards {
			for _, at := range append(notIntervals(len(s.Edges)), 0, len(s.Edges)-1) {
				for _, e := range append([]impl.SEdge{{}}, edgesIn(f)...) {
					checkPut(t, "a place", f, subOf(loc(q, at, e)), within(at, len(s.Edges)-1) && s.Edges[at] == e)
				}
			}
		}
		for _, q := range notIntervals(count) {
			for _, at := range []int{-1, 0, 1, math.MaxInt} {
				for _, e := range []impl.SEdge{{}, edgesIn(f)[0]} {
					if q < 0 || q >= count {
						checkPut(t, "no shard", f, subOf(loc(q, at, e)), false)
					}
				}
			}
		}
	}
	bare := divided(graph(3), []int{1, 3}, nil)
	for q := range 2 {
		for _, at := range []int{-1, 0, 1} {
			checkPut(t, "no edges", bare, subOf(loc(q, at, impl.SEdge{})), false)
		}
	}
}

func TestPutLeavesEverythingElse(t *testing.T) {
	for _, f := range soundFarms() {
		for i := range edgesIn(f) {
			x := locate(f, i)
			vals := wantFarmVals(f)
			x.Edge.Val, vals[i] = 4321, 4321
			want, _ := wantFarmWith(f, vals)
			// Of a Sub only the Locs count, whatever interval it is said to be of.
			subs := []impl.Sub{subOf(x), {P: -5, Lo: 99, Hi: -99, Reads: math.MinInt, Locs: []impl.Loc{x}}}
			for p := range f.Ends {
				lo, hi := wantSpan(f.Ends, p)
				subs = append(subs, impl.Sub{P: p, Lo: lo, Hi: hi, Reads: 1, Locs: []impl.Loc{x}}, impl.Sub{P: p, Lo: lo + 1, Hi: hi - 1, Reads: 99, Locs: []impl.Loc{x}})
			}
			for _, s := range subs {
				if got, ok := impl.Put(f, s); !ok || !sameFarm(got, want) {
					t.Errorf("Put(%s, %s) = %s, %v", brief(f), brief(s), brief(got), ok)
				}
			}
		}
		for _, l := range [][]impl.Loc{nil, {}} {
			if got, ok := impl.Put(f, impl.Sub{P: -1, Lo: -2, Hi: -3, Reads: -4, Locs: l}); !ok || !sameFarm(got, f) {
				t.Errorf("Put(%s) without Locs = %s, %v", brief(f), brief(got), ok)
			}
		}
	}
}

// TestPutOneLocationTwice has the last one of the values stay.
func TestPutOneLocationTwice(t *testing.T) {
	for _, f := range soundFarms() {
		for i := range edgesIn(f) {
			x, y, z := locate(f, i), locate(f, i), locate(f, 0)
			x.Edge.Val, y.Edge.Val = 111, 222
			checkPut(t, "the same location twice", f, subOf(x, x), true)
			for _, l := range [][]impl.Loc{{x, y}, {y, x}, {x, y, x}, {y, x, x, y}, {x, z, y}} {
				checkPut(t, "the same location twice", f, subOf(l...), true)
				got, ok := impl.Put(f, subOf(l...))
				if last := l[len(l)-1]; !ok || impl.FarmVals(got)[i] != last.Edge.Val {
					t.Errorf("Put(%s, %s) = %s, %v", brief(f), brief(l), brief(got), ok)
				}
			}
			y.Edge.Val = far + 1
			checkPut(t, "the same location twice, once with no value", f, subOf(x, y), false)
			checkPut(t, "the same location twice, once with no value", f, subOf(y, x), false)
		}
	}
}

func TestPutManyLocations(t *testing.T) {
	r := rand.New(rand.NewSource(99))
	for _, f := range soundFarms() {
		var l []impl.Loc
		for range 1000 {
			x := locate(f, r.Intn(len(edgesIn(f))))
			x.Edge.Val = r.Intn(far + 1)
			l = append(l, x)
		}
		checkPut(t, "many locations", f, subOf(l...), true)
		l[len(l)-1].At = -1
		checkPut(t, "many locations, the last of them none", f, subOf(l...), false)
		l[len(l)-1] = l[0]
		l[0].Edge.W--
		checkPut(t, "many locations, the first of them with another edge", f, subOf(l...), false)
	}
}

// anyLoc is the location of an edge, or with some odds of none.
func anyLoc(r *rand.Rand, f impl.Farm) impl.Loc {
	x := loc(r.Intn(len(f.Shards)+1), r.Intn(4), sedge(r.Intn(4), r.Intn(4), r.Intn(2), r.Intn(4), r.Intn(9)))
	if all := edgesIn(f); len(all) > 0 && r.Intn(20) > 0 {
		x = locate(f, all[r.Intn(len(all))].Index)
		x.Edge.Val = r.Intn(far + 1)
		if r.Intn(20) == 0 {
			l := otherThan(x)
			x = l[r.Intn(len(l))]
		}
	}
	return x
}

func TestAnyFarms(t *testing.T) {
	r := rand.New(rand.NewSource(100))
	valid, puts := map[bool]int{}, map[bool]int{}
	for range 12000 {
		n := r.Intn(7)
		g := randomGraph(r, n, r.Intn(9))
		f := divided(g, randomEnds(r, n, 2), manyValues(r, len(g.Edges)))
		switch r.Intn(8) {
		case 0, 1, 2:
			f.N, f.Shards = spoil(r, n, f.Shards)
		case 3:
			f.Ends = randomEnds(r, n, 2)
		}
		ok := wantFarmOk(f)
		valid[ok]++
		if !ok {
			checkNoFarm(t, "any farm", f)
			continue
		}
		checkFarm(t, "any farm", f, 9)
		var s impl.Sub
		for range r.Intn(6) {
			s.Locs = append(s.Locs, anyLoc(r, f))
		}
		_, ok = wantPut(f, s)
		checkPut(t, "any locations", f, s, ok)
		puts[ok]++
	}
	if min(valid[true], valid[false], puts[true], puts[false]) < 1000 {
		t.Errorf("valid or not: %v, put or not: %v", valid, puts)
	}
}

// lentFarm is a farm and the arguments beside it, with more behind each of their slices.
type lentFarm struct {
	f      impl.Farm
	g      impl.Graph
	vals   []int
	s      impl.Sub
	shards []impl.Shard
	edges  [][]impl.SEdge
	sides  []impl.Edge
	nums   [2][]int
	locs   []impl.Loc
}

func lendFarm(f impl.Farm, g impl.Graph, vals []int, s impl.Sub) lentFarm {
	var l lentFarm
	for _, x := range f.Shards {
		lent, room, _ := lendSEdges(x)
		l.shards, l.edges = append(l.shards, lent), append(l.edges, room)
	}
	l.shards = append(l.shards, shard(4, 5, sedge(4, 4, 4, 4, 4)), shard(6, 7))
	l.sides = append(slices.Clone(g.Edges), edge(7, 8, 9), edge(-1, -2, -3))
	l.nums[0], l.nums[1] = append(slices.Clone(f.Ends), 7, 8, 9), append(slices.Clone(vals), 4, 5, 6)
	l.locs = append(slices.Clone(s.Locs), loc(1, 2, sedge(3, 4, 5, 6, 7)), impl.Loc{})
	l.f = farm(f.N, l.nums[0][:len(f.Ends)], l.shards[:len(f.Shards)]...)
	l.g = impl.Graph{N: g.N, Edges: l.sides[:len(g.Edges)]}
	l.vals = l.nums[1][:len(vals)]
	l.s = s
	l.s.Locs = l.locs[:len(s.Locs)]
	return l
}

func (l lentFarm) same(k lentFarm) bool {
	return sameFarm(l.f, k.f) && sameGraph(l.g, k.g) && sameSub(l.s, k.s) && sameShards(l.shards, k.shards) &&
		slices.EqualFunc(l.edges, k.edges, slices.Equal) && slices.Equal(l.sides, k.sides) &&
		slices.Equal(l.nums[0], k.nums[0]) && slices.Equal(l.nums[1], k.nums[1]) && slices.Equal(l.locs, k.locs)
}

func fillLocs(l []impl.Loc, x int) {
	l = l[:cap(l)]
	for i := range l {
		l[i] = loc(x, x, sedge(x, x, x, x, x))
	}
}

func fillFarm(f impl.Farm, x int) {
	fillInts(f.Ends, x)
	fillShards(f.Shards, x+1)
}

// useUp calls every function, and overwrites what it returns.
func (l lentFarm) useUp() {
	impl.FarmOk(l.f)
	for _, budget := range []int{0, 1, 2, 400} {
		made, _ := impl.FarmOf(l.g, budget, 2)
		fillFarm(made, 61)
	}
	fillEdges(impl.FarmGraph(l.f).Edges, 63)
	fillInts(impl.FarmVals(l.f), 64)
	for _, vals := range [][]int{l.vals, impl.FarmVals(l.f)} {
		with, _ := impl.FarmWith(l.f, vals)
		fillFarm(with, 65)
	}
	for p := -1; p <= len(l.f.Ends); p++ {
		s, _ := impl.Load(l.f, p)
		put, _ := impl.Put(l.f, s)
		fillLocs(s.Locs, 67)
		fillFarm(put, 68)
	}
	for _, s := range []impl.Sub{l.s, {}} {
		put, _ := impl.Put(l.f, s)
		fillFarm(put, 70)
	}
	fillInts(impl.Residents(l.f), 72)
}

func TestFarmArgumentsStayAsTheyAre(t *testing.T) {
	l := spoiledFarms()
	for _, f := range soundFarms() {
		l = append(l, slices.Repeat([]spoiledFarm{{"sound", f}}, 40)...)
	}
	for i, x := range l {
		if i%20 > 0 {
			continue
		}
		all := impl.Sub{P: 1, Lo: 2, Hi: 3, Reads: 4}
		for _, e := range edgesIn(x.f) {
			y := locate(x.f, e.Index)
			y.Edge.Val = min(max(e.Val, 0), far-1) + 1
			all.Locs = append(all.Locs, y)
		}
		bad := all
		bad.Locs = append(slices.Clone(all.Locs), impl.Loc{Shard: -1})
		for _, s := range []impl.Sub{all, bad} {
			for _, vals := range [][]int{nil, make([]int, len(all.Locs)), times(len(all.Locs), -1)} {
				g := randomGraph(rand.New(rand.NewSource(101)), 9, i%20)
				lent, kept := lendFarm(x.f, g, vals, s), lendFarm(x.f, g, vals, s)
				lent.useUp()
				if !lent.same(kept) {
					t.Errorf("%s: %s and %s became %s and %s", x.what, brief(kept.f), brief(kept.s), brief(lent.f), brief(lent.s))
				}
			}
		}
	}
}

// checkFarmApart fills the slices of a result one after the other.
func checkFarmApart(t *testing.T, what string, f impl.Farm) {
	t.Helper()
	kept := cloneFarm(f)
	fillInts(f.Ends, 51)
	ok := sameShards(f.Shards, kept.Shards)
	for p := range f.Shards {
		fillSEdges(f.Shards[p].Edges, 52)
		fillSEdges(kept.Shards[p].Edges, 52)
		ok = ok && sameShards(f.Shards, kept.Shards) && slices.Equal(f.Ends, times(len(f.Ends), 51))
	}
	if !ok {
		t.Errorf("%s: the result shares memory: %s", what, brief(f))
	}
}

func TestFarmsDoNotShareMemory(t *testing.T) {
	for _, f := range soundFarms() {
		g, vals := wantFarmGraph(f), wantFarmVals(f)
		for _, budget := range []int{1, 2, 400} {
			made, _ := impl.FarmOf(g, budget, 3)
			checkFarmApart(t, "FarmOf", made)
		}
		with, _ := impl.FarmWith(f, vals)
		checkFarmApart(t, "FarmWith", with)
		for p := range f.Ends {
			s, _ := impl.Load(f, p)
			put, _ := impl.Put(f, s)
			checkFarmApart(t, "Put", put)
		}
		put, _ := impl.Put(f, impl.Sub{})
		checkFarmApart(t, "Put", put)
	}
}

// TestFarmsAreNewMemory fills some results, and then looks at others of the same arguments.
func TestFarmsAreNewMemory(t *testing.T) {
	for _, f := range soundFarms() {
		g, vals := wantFarmGraph(f), wantFarmVals(f)
		lendFarm(f, g, vals, impl.Sub{}).useUp()
		before, _ := impl.Load(f, 0)
		kept := before
		kept.Locs = slices.Clone(before.Locs)
		made, _ := impl.FarmOf(g, 2, 3)
		fillFarm(made, 41)
		other, _ := impl.Load(f, 0)
		fillLocs(other.Locs, 43)
		impl.Residents(f)
		if !sameSub(before, kept) {
			t.Errorf("what is loaded became %s", brief(before))
		}
		checkFarmOf(t, "new memory", g, 2, 3, true)
		checkFarm(t, "new memory", f, 9)
	}
}

// TestFarmsWhoseSlicesShareMemory has the same memory for the edges of all shards, and for the ends and the values.
func TestFarmsWhoseSlicesShareMemory(t *testing.T) {
	l := []impl.SEdge{sedge(0, 1, 5, 0, 1), sedge(2, 1, 6, 1, 2), sedge(0, 3, 7, 2, 3), sedge(3, 3, 8, 3, 9)}
	for _, first := range []int{0, 1, 2} {
		ends := []int{2, 4}
		f := farm(4, ends, shard(0, 2, l[:first]...), shard(2, 4))
		if first == 2 {
			f.Shards[1].Edges = l[2:4]
		}
		kept := cloneFarm(f)
		checkFarm(t, "shared memory", f, 9)
		if first == 2 {
			checkFarmWith(t, "shared memory", f, []int{4, 3, 2, 1}, true)
		}
		with, _ := impl.FarmWith(f, upTo(first*2, 1))
		checkFarmApart(t, "shared memory", with)
		put, _ := impl.Put(f, impl.Sub{})
		checkFarmApart(t, "shared memory", put)
		if !sameFarm(f, kept) {
			t.Errorf("%s became %s", brief(kept), brief(f))
		}
	}
	both := []int{1, 2, 3}
	chain := divided(graph(3, edge(0, 1, 1), edge(1, 2, 1), edge(2, 0, 1)), both, []int{5, 6, 7})
	with, ok := impl.FarmWith(chain, both)
	if !ok || !slices.Equal(impl.FarmVals(with), []int{1, 2, 3}) || !slices.Equal(with.Ends, []int{1, 2, 3}) {
		t.Errorf("FarmWith of the ends themselves = %s, %v", brief(with), ok)
	}
}
