package tests

import (
	"math"
	"math/rand"
	"slices"
	"testing"

	"loop.example/g00671/impl"
)

func sameRun(a, b impl.Run) bool {
	return a.Job == b.Job && a.Iter == b.Iter && a.Done == b.Done && slices.Equal(a.Vals, b.Vals) && slices.Equal(a.EVals, b.EVals) && sameSet(a.Next, b.Next)
}

func isNoRun(r impl.Run) bool { return sameRun(r, impl.Run{}) }

func isNoSet(s impl.Set) bool { return sameSet(s, impl.Set{}) }

func cloneSet(s impl.Set) impl.Set { return impl.Set{N: s.N, Bits: slices.Clone(s.Bits)} }

func cloneRun(r impl.Run) impl.Run {
	r.Vals, r.EVals, r.Next = slices.Clone(r.Vals), slices.Clone(r.EVals), cloneSet(r.Next)
	return r
}

// withNext is r with other vertices to be updated.
func withNext(r impl.Run, next impl.Set) impl.Run {
	r.Next, r.Done = next, numberOf(next).Sign() == 0
	return r
}

func allOf(n int) impl.Set { return wantSet(n, verticesOf(n, everyVertex)...) }

func wantRunOk(g impl.Graph, r impl.Run) bool {
	values := slices.Concat(r.Vals, r.EVals)
	return wantGraphOk(g) && wantJobOk(g.N, r.Job) && within(r.Iter, 1000) && len(r.Vals) == g.N && len(r.EVals) == len(g.Edges) &&
		!slices.ContainsFunc(values, func(x int) bool { return !within(x, far) }) &&
		r.Next.N == g.N && wantSetOk(r.Next) && r.Done == (numberOf(r.Next).Sign() == 0)
}

func wantRunNew(g impl.Graph, j impl.Job) (impl.Run, bool) {
	if !wantGraphOk(g) || !wantJobOk(g.N, j) {
		return impl.Run{}, false
	}
	r := withNext(impl.Run{Job: j}, allOf(g.N))
	for v := range g.N {
		r.Vals = append(r.Vals, wantFirstVal(j, v))
	}
	out, _ := wantDegs(g)
	for _, e := range g.Edges {
		r.EVals = append(r.EVals, wantFirstEdge(j, e.From, e.To, out[e.From]))
	}
	return r, true
}

// viewsAt does not look at whether the run is valid.
func viewsAt(g impl.Graph, r impl.Run, v int) (l []impl.View, at []int) {
	for i, e := range g.Edges {
		switch {
		case e == edge(v, v, e.W):
			l = append(l, weighs(e.W, loops(r.EVals[i])))
		case e.From == v:
			l = append(l, weighs(e.W, leaves(r.EVals[i])))
		case e.To == v:
			l = append(l, weighs(e.W, arrives(r.EVals[i])))
		default:
			continue
		}
		at = append(at, i)
	}
	return l, at
}

func wantViews(g impl.Graph, r impl.Run, v int) ([]impl.View, []int) {
	if !wantRunOk(g, r) || !within(v, g.N-1) {
		return nil, nil
	}
	return viewsAt(g, r, v)
}

// putVertex changes the values in r, and returns the other ends of the edges that have changed.
func putVertex(g impl.Graph, r *impl.Run, v int) (others []int) {
	l, at := viewsAt(g, *r, v)
	val, edges := wantUpdate(r.Job, v, r.Vals[v], l)
	r.Vals[v] = val
	for k, i := range at {
		if r.EVals[i] != edges[k] {
			others = append(others, g.Edges[i].From+g.Edges[i].To-v)
		}
		r.EVals[i] = edges[k]
	}
	return others
}

func wantRunVertex(g impl.Graph, r impl.Run, now impl.Set, v int) (impl.Run, impl.Set) {
	if !wantRunOk(g, r) || !within(v, g.N-1) || !wantSetOk(now) || now.N != g.N {
		return impl.Run{}, impl.Set{}
	}
	out := cloneRun(r)
	later, again := wantMembers(now), wantMembers(r.Next)
	for _, u := range putVertex(g, &out, v) {
		if u > v {
			later = append(later, u)
		} else {
			again = append(again, u)
		}
	}
	out.Next = wantSet(g.N, again...)
	return out, wantSet(g.N, later...)
}

// wantRunIter always takes the least of a list of vertices that are still to come.
func wantRunIter(g impl.Graph, r impl.Run) (impl.Run, bool) {
	if !wantRunOk(g, r) || r.Done || r.Iter == 1000 {
		return impl.Run{}, false
	}
	out := cloneRun(r)
	todo := wantMembers(r.Next)
	var again []int
	for len(todo) > 0 {
		v := slices.Min(todo)
		todo = slices.DeleteFunc(todo, func(u int) bool { return u == v })
		for _, u := range putVertex(g, &out, v) {
			if u > v {
				todo = append(todo, u)
			} else {
				again = append(again, u)
			}
		}
	}
	out.Iter++
	return withNext(out, wantSet(g.N, again...)), true
}

func wantRunAll(g impl.Graph, r impl.Run, most int) impl.Run {
	if !wantRunOk(g, r) {
		return impl.Run{}
	}
	for ; most > 0; most-- {
		next, ok := wantRunIter(g, r)
		if !ok {
			break
		}
		r = next
	}
	return r
}

func checkRunOk(t *testing.T, what string, g impl.Graph, r impl.Run, want bool) {
	t.Helper()
	if got, model := impl.RunOk(g, r), wantRunOk(g, r); got != want || model != want {
		t.Errorf("%s: RunOk(%s, %s) = %v, want %v (by the model %v)", what, brief(g), brief(r), got, want, model)
	}
}

func checkRunNew(t *testing.T, what string, g impl.Graph, j impl.Job, want bool) impl.Run {
	t.Helper()
	got, ok := impl.RunNew(g, j)
	model, modelOk := wantRunNew(g, j)
	if !sameRun(got, model) || ok != want || modelOk != want {
		t.Errorf("%s: RunNew(%s, %+v) = %s, %v, want %s, %v (by the model %v)", what, brief(g), j, brief(got), ok, brief(model), want, modelOk)
	}
	return model
}

func checkViews(t *testing.T, what string, g impl.Graph, r impl.Run, v int) {
	t.Helper()
	l, at := impl.Views(g, r, v)
	model, modelAt := wantViews(g, r, v)
	if !slices.Equal(l, model) || !slices.Equal(at, modelAt) {
		t.Errorf("%s: Views(%s, %s, %d) = %s, %s, want %s, %s", what, brief(g), brief(r), v, brief(l), brief(at), brief(model), brief(modelAt))
	}
}

func checkRunVertex(t *testing.T, what string, g impl.Graph, r impl.Run, now impl.Set, v int) {
	t.Helper()
	got, later := impl.RunVertex(g, r, now, v)
	model, modelLater := wantRunVertex(g, r, now, v)
	if !sameRun(got, model) || !sameSet(later, modelLater) {
		t.Errorf("%s: RunVertex(%s, %s, %s, %d) = %s, %s, want %s, %s", what, brief(g), brief(r), brief(now), v, brief(got), brief(later), brief(model), brief(modelLater))
	}
}

// checkPromisedIter checks what the promise P5 says of one iteration.
func checkPromisedIter(t *testing.T, what string, g impl.Graph, before, after impl.Run) {
	t.Helper()
	if !wantRunOk(g, after) || !impl.RunOk(g, after) || after.Job != before.Job || after.Iter != before.Iter+1 || len(after.Vals) != g.N {
		t.Errorf("%s: %s is followed by %s", what, brief(before), brief(after))
		return
	}
	if before.Job.Prog != conn && before.Job.Prog != path {
		return
	}
	for v, val := range after.Vals {
		if val > before.Vals[v] {
			t.Errorf("%s: the value of %d increases from %d to %d", what, v, before.Vals[v], val)
		}
	}
}

// checkRunIter returns the run after the iteration, or r itself if there is none.
func checkRunIter(t *testing.T, what string, g impl.Graph, r impl.Run, want bool) impl.Run {
	t.Helper()
	got, ok := impl.RunIter(g, r)
	model, modelOk := wantRunIter(g, r)
	if !sameRun(got, model) || ok != want || modelOk != want {
		t.Errorf("%s: RunIter(%s, %s) = %s, %v, want %s, %v (by the model %v)", what, brief(g), brief(r), brief(got), ok, brief(model), want, modelOk)
	}
	if !want {
		return r
	}
	checkPromisedIter(t, what, g, r, got)
	return model
}

func checkRunAll(t *testing.T, what string, g impl.Graph, r impl.Run, mosts ...int) {
	t.Helper()
	for _, most := range mosts {
		if got, model := impl.RunAll(g, r, most), wantRunAll(g, r, most); !sameRun(got, model) {
			t.Errorf("%s: RunAll(%s, %s, %d) = %s, want %s", what, brief(g), brief(r), most, brief(got), brief(model))
		}
	}
}

// verticesToTry are some vertices of n, all of them if they are few, and some numbers that are none.
func verticesToTry(n int) []int {
	l := []int{math.MinInt, -1 << 32, -n, -1, n, n + 1, 150, 151, 1 << 32, math.MaxInt}
	step := max(n/10, 1)
	return append(l, append(upTo(n-1, step), 0, n-1)...)
}

var mostsToTry = []int{math.MinInt, -1, 0, 1, 2, 3, 5, math.MaxInt}

// checkRun checks all functions for a valid run.
func checkRun(t *testing.T, what string, g impl.Graph, r impl.Run, nows ...impl.Set) {
	t.Helper()
	checkRunOk(t, what, g, r, true)
	for _, v := range verticesToTry(g.N) {
		checkViews(t, what, g, r, v)
		for _, now := range append(nows, wantSet(g.N), allOf(g.N)) {
			checkRunVertex(t, what, g, r, now, v)
		}
	}
	checkRunIter(t, what, g, r, !r.Done && r.Iter < 1000)
	checkRunAll(t, what, g, r, mostsToTry...)
}

// checkNoRun checks all functions for a run that is not valid.
func checkNoRun(t *testing.T, what string, g impl.Graph, r impl.Run) {
	t.Helper()
	checkRunOk(t, what, g, r, false)
	for _, v := range verticesToTry(min(max(g.N, 0), 200)) {
		if l, at := impl.Views(g, r, v); l != nil || at != nil {
			t.Errorf("%s: Views(%s, %s, %d) = %s, %s", what, brief(g), brief(r), v, brief(l), brief(at))
		}
		for _, now := range []impl.Set{{}, r.Next, wantSet(min(max(g.N, 0), 150))} {
			if got, later := impl.RunVertex(g, r, now, v); !isNoRun(got) || !isNoSet(later) {
				t.Errorf("%s: RunVertex(%s, %s, %s, %d) = %s, %s", what, brief(g), brief(r), brief(now), v, brief(got), brief(later))
			}
		}
	}
	checkRunIter(t, what, g, r, false)
	for _, most := range mostsToTry {
		if got := impl.RunAll(g, r, most); !isNoRun(got) {
			t.Errorf("%s: RunAll(%s, %s, %d) = %s", what, brief(g), brief(r), most, brief(got))
		}
	}
}

// jobsOf are all jobs for n vertices, but only some of the paths if there are many vertices.
func jobsOf(n int) []impl.Job {
	l := []impl.Job{job(rank, 0), job(conn, 0), job(label, 0)}
	for src := 0; src < n; src += max(n/5, 1) {
		l = append(l, job(path, src))
	}
	return l
}

func TestTheGreatestNumberOfIterations(t *testing.T) {
	if impl.MaxIter != 1000 {
		t.Errorf("MaxIter = %d", impl.MaxIter)
	}
}

// state is a run of which the graph and the job are known.
type state struct{ vals, edges, next []int }

func runAt(n int, j impl.Job, iter int, s state) impl.Run {
	return withNext(impl.Run{Job: j, Iter: iter, Vals: s.vals, EVals: s.edges}, wantSet(n, s.next...))
}

// history is a run from its first values to its end.
type history struct {
	what   string
	g      impl.Graph
	j      impl.Job
	states []state
}

func histories() []history {
	chain := graph(3, edge(2, 1, 1), edge(1, 0, 1))
	ways := graph(3, edge(0, 1, 2), edge(1, 2, 3), edge(0, 2, 9))
	star := graph(3, edge(2, 0, 1), edge(2, 1, 1))
	loop := graph(1, edge(0, 0, 7))
	return []history{
		{"ranks without vertices", graph(0), job(rank, 0), []state{{}}},
		{"components without vertices", graph(0), job(conn, 0), []state{{}}},
		{"labels without vertices", graph(0), job(label, 0), []state{{}}},
		{"ranks without edges", graph(2), job(rank, 0), []state{{times(2, 1048576), nil, []int{0, 1}}, {times(2, 157286), nil, nil}}},
		{"components without edges", graph(3), job(conn, 0), []state{{[]int{0, 1, 2}, nil, []int{0, 1, 2}}, {[]int{0, 1, 2}, nil, nil}}},
		{"paths without edges", graph(3), job(path, 1), []state{{[]int{far, 0, far}, nil, []int{0, 1, 2}}, {[]int{far, 0, far}, nil, nil}}},
		{"labels without edges", graph(3), job(label, 0), []state{{[]int{0, 1, 2}, nil, []int{0, 1, 2}}, {[]int{0, 1, 2}, nil, nil}}},
		{"the rank of a loop", loop, job(rank, 0), []state{
			{[]int{1048576}, []int{1048576}, []int{0}},
			{[]int{1048575}, []int{1048575}, []int{0}},
			{[]int{1048574}, []int{1048574}, []int{0}},
			{[]int{1048573}, []int{1048573}, []int{0}},
			{[]int{1048573}, []int{1048573}, nil},
		}},
		{"the component of a loop", loop, job(conn, 0), []state{{[]int{0}, []int{far}, []int{0}}, {[]int{0}, []int{0}, []int{0}}, {[]int{0}, []int{0}, nil}}},
		{"the path along a loop", loop, job(path, 0), []state{{[]int{0}, []int{far}, []int{0}}, {[]int{0}, []int{0}, []int{0}}, {[]int{0}, []int{0}, nil}}},
		{"the label of a loop", graph(2, edge(1, 1, 7)), job(label, 0), []state{{[]int{0, 1}, []int{1001}, []int{0, 1}}, {[]int{0, 1}, []int{1001}, nil}}},
		{"ranks in a circle with parallel edges", graph(2, edge(0, 1, 3), edge(0, 1, 4), edge(1, 0, 5)), job(rank, 0), []state{
			{[]int{1048576, 1048576}, []int{524288, 524288, 1048576}, []int{0, 1}},
			{[]int{1048575, 1048573}, []int{524287, 524287, 1048573}, []int{0}},
			{[]int{1048573, 1048572}, []int{524286, 524286, 1048572}, []int{0}},
			{[]int{1048572, 1048572}, []int{524286, 524286, 1048572}, nil},
		}},
		{"two components that the last vertex joins", star, job(conn, 0), []state{
			{[]int{0, 1, 2}, []int{far, far}, []int{0, 1, 2}},
			{[]int{0, 1, 0}, []int{0, 0}, []int{1}},
			{[]int{0, 0, 0}, []int{0, 0}, nil},
		}},
		{"a component along a chain", chain, job(conn, 0), []state{{[]int{0, 1, 2}, []int{far, far}, []int{0, 1, 2}}, {[]int{0, 0, 0}, []int{0, 0}, nil}}},
		{"paths in the order of the vertices", ways, job(path, 0), []state{{[]int{0, far, far}, times(3, far), []int{0, 1, 2}}, {[]int{0, 2, 5}, []int{0, 2, 0}, nil}}},
		{"paths from a vertex that others come after", ways, job(path, 1), []state{{[]int{far, 0, far}, times(3, far), []int{0, 1, 2}}, {[]int{far, 0, 3}, []int{far, 0, far}, nil}}},
		{"paths against the order of the vertices", chain, job(path, 2), []state{
			{[]int{far, far, 0}, []int{far, far}, []int{0, 1, 2}},
			{[]int{far, far, 0}, []int{0, far}, []int{1}},
			{[]int{far, 1, 0}, []int{0, 1}, []int{0}},
			{[]int{2, 1, 0}, []int{0, 1}, nil},
		}},
		{"the label of an edge", graph(2, edge(0, 1, 1)), job(label, 0), []state{{[]int{0, 1}, []int{1}, []int{0, 1}}, {[]int{1, 1}, []int{1001}, nil}}},
		{"labels around a vertex", graph(4, edge(0, 1, 1), edge(2, 1, 1), edge(3, 1, 1)), job(label, 0), []state{
			{[]int{0, 1, 2, 3}, []int{1, 2001, 3001}, []int{0, 1, 2, 3}},
			{[]int{1, 1, 1, 1}, []int{1001, 1001, 1001}, []int{1}},
			{[]int{1, 1, 1, 1}, []int{1001, 1001, 1001}, nil},
		}},
	}
}

func TestRunsKnown(t *testing.T) {
	for _, h := range histories() {
		r, ok := impl.RunNew(h.g, h.j)
		checkRunNew(t, h.what, h.g, h.j, true)
		first, last := r, len(h.states)-1
		for i, s := range h.states {
			want := runAt(h.g.N, h.j, i, s)
			if !ok || !sameRun(r, want) || r.Done != (i == last) {
				t.Errorf("%s: the run after %d iterations is %s, %v, want %s", h.what, i, brief(r), ok, brief(want))
			}
			if all := impl.RunAll(h.g, first, i); !sameRun(all, want) {
				t.Errorf("%s: RunAll(%d) = %s, want %s", h.what, i, brief(all), brief(want))
			}
			checkRun(t, h.what, h.g, want)
			r, ok = impl.RunIter(h.g, want)
		}
		if ok || !isNoRun(r) {
			t.Errorf("%s: the run that is done goes on to %s, %v", h.what, brief(r), ok)
		}
		for _, most := range []int{last, last + 1, last + 2, 999, 1000, 1001, math.MaxInt} {
			if all := impl.RunAll(h.g, first, most); !sameRun(all, runAt(h.g.N, h.j, last, h.states[last])) {
				t.Errorf("%s: RunAll(%d) = %s", h.what, most, brief(all))
			}
		}
	}
}

// crossing has edges from and to the vertex 2 and every kind of other end.
func crossing() impl.Graph {
	return graph(4, edge(2, 2, 1), edge(2, 3, 2), edge(1, 2, 3), edge(2, 0, 4), edge(0, 1, 5), edge(3, 2, 6))
}

func TestViewsKnown(t *testing.T) {
	g := crossing()
	r := runAt(4, job(conn, 0), 5, state{times(4, 9), []int{10, 11, 12, 13, 14, 15}, []int{1}})
	parallel := graph(2, edge(0, 1, 1), edge(0, 0, 2), edge(0, 1, 1), edge(1, 0, 3), edge(0, 0, 2))
	p := runAt(2, job(rank, 0), 0, state{times(2, 9), []int{10, 11, 12, 13, 14}, nil})
	for _, c := range []struct {
		g  impl.Graph
		r  impl.Run
		v  int
		l  []impl.View
		at []int
	}{
		{g, r, 0, views(weighs(4, arrives(13)), weighs(5, leaves(14))), []int{3, 4}},
		{g, r, 1, views(weighs(3, leaves(12)), weighs(5, arrives(14))), []int{2, 4}},
		{g, r, 2, views(weighs(1, loops(10)), weighs(2, leaves(11)), weighs(3, arrives(12)), weighs(4, leaves(13)), weighs(6, arrives(15))), []int{0, 1, 2, 3, 5}},
		{g, r, 3, views(weighs(2, arrives(11)), weighs(6, leaves(15))), []int{1, 5}},
		{g, r, -1, nil, nil}, {g, r, 4, nil, nil}, {g, r, math.MinInt, nil, nil}, {g, r, math.MaxInt, nil, nil},
		{parallel, p, 0, views(weighs(1, leaves(10)), weighs(2, loops(11)), weighs(1, leaves(12)), weighs(3, arrives(13)), weighs(2, loops(14))), []int{0, 1, 2, 3, 4}},
		{parallel, p, 1, views(weighs(1, arrives(10)), weighs(1, arrives(12)), weighs(3, leaves(13))), []int{0, 2, 3}},
		{parallel, p, 2, nil, nil},
		{graph(2), runAt(2, job(label, 0), 0, state{times(2, 0), nil, nil}), 0, nil, nil},
	} {
		if l, at := impl.Views(c.g, c.r, c.v); !slices.Equal(l, c.l) || !slices.Equal(at, c.at) {
			t.Errorf("Views(%s, %s, %d) = %s, %s, want %s, %s", brief(c.g), brief(c.r), c.v, brief(l), brief(at), brief(c.l), brief(c.at))
		}
		checkViews(t, "known", c.g, c.r, c.v)
	}
}

// turning is an update of one vertex with known results.
type turning struct {
	what    string
	prog, v int
	before  state
	now     []int
	after   state
	later   []int
}

func TestOneVertexKnown(t *testing.T) {
	all := times(6, far)
	for _, c := range []turning{
		{"a component", conn, 2, state{[]int{0, 1, 2, 3}, all, []int{3}}, []int{0}, state{[]int{0, 1, 2, 3}, []int{2, 2, 2, 2, far, 2}, []int{0, 1, 2, 3}}, []int{0, 3}},
		{"a component without any vertex in the sets", conn, 2, state{[]int{0, 1, 2, 3}, all, nil}, nil, state{[]int{0, 1, 2, 3}, []int{2, 2, 2, 2, far, 2}, []int{0, 1, 2}}, []int{3}},
		{"a component that is known at all edges", conn, 2, state{[]int{9, 9, 9, 9}, times(6, 5), nil}, nil, state{[]int{9, 9, 5, 9}, times(6, 5), nil}, nil},
		{"a component that is not known at an edge to a greater vertex", conn, 2, state{[]int{9, 9, 9, 9}, []int{5, 5, 5, 5, 5, 6}, nil}, nil, state{[]int{9, 9, 5, 9}, times(6, 5), nil}, []int{3}},
		{"a component that is not known at an edge to a smaller vertex", conn, 2, state{[]int{9, 9, 9, 9}, []int{5, 5, 6, 5, 5, 5}, nil}, []int{1}, state{[]int{9, 9, 5, 9}, times(6, 5), []int{1}}, []int{1}},
		{"a component that is not known at a loop", conn, 2, state{[]int{9, 9, 9, 9}, []int{6, 5, 5, 5, 5, 5}, nil}, []int{2}, state{[]int{9, 9, 5, 9}, times(6, 5), []int{2}}, []int{2}},
		{"a component at other edges", conn, 2, state{[]int{9, 9, 9, 9}, []int{5, 5, 5, 5, 1, 5}, []int{2}}, []int{3}, state{[]int{9, 9, 5, 9}, []int{5, 5, 5, 5, 1, 5}, []int{2}}, []int{3}},
		{"the first vertex", conn, 0, state{[]int{0, 1, 2, 3}, all, nil}, nil, state{[]int{0, 1, 2, 3}, []int{far, far, far, 0, 0, far}, nil}, []int{1, 2}},
		{"the last vertex", conn, 3, state{[]int{0, 1, 2, 3}, all, nil}, nil, state{[]int{0, 1, 2, 3}, []int{far, 3, far, far, far, 3}, []int{2}}, nil},
		{"a path", path, 2, state{[]int{9, 9, 0, 9}, all, nil}, nil, state{[]int{9, 9, 0, 9}, []int{0, 0, far, 0, far, far}, []int{0, 2}}, []int{3}},
		{"a path by way of an edge", path, 2, state{[]int{0, 0, 90, 0}, []int{90, 90, 40, 90, 0, 30}, nil}, nil, state{[]int{0, 0, 36, 0}, []int{36, 36, 40, 36, 0, 30}, []int{0, 2}}, []int{3}},
		{"a path that is known", path, 2, state{[]int{0, 0, 36, 0}, []int{36, 36, 40, 36, 0, 30}, []int{0, 1}}, []int{1, 2}, state{[]int{0, 0, 36, 0}, []int{36, 36, 40, 36, 0, 30}, []int{0, 1}}, []int{1, 2}},
		{"a rank", rank, 2, state{times(4, 0), []int{20, 20, 40, 20, 20, 60}, nil}, nil, state{[]int{0, 0, 157388, 0}, []int{52462, 52462, 40, 52462, 20, 60}, []int{0, 2}}, []int{3}},
		{"a rank that does not change the edges", rank, 3, state{times(4, 5), []int{0, 20, 0, 0, 0, 157303}, nil}, []int{3}, state{[]int{5, 5, 5, 157303}, []int{0, 20, 0, 0, 0, 157303}, nil}, []int{3}},
		{"a label", label, 2, state{[]int{0, 1, 2, 3}, []int{2002, 2003, 1002, 2000, 1, 3002}, nil}, []int{1}, state{[]int{0, 1, 2, 3}, []int{2002, 2003, 1002, 2000, 1, 3002}, nil}, []int{1}},
		{"a label that others have", label, 2, state{[]int{0, 1, 2, 3}, []int{2002, 2003, 3002, 2003, 1, 3002}, nil}, nil, state{[]int{0, 1, 3, 3}, []int{3003, 3003, 3003, 3003, 1, 3003}, []int{0, 1, 2}}, []int{3}},
	} {
		j := job(c.prog, 0)
		if c.prog == path {
			j.Src = 2
		}
		want := runAt(4, j, 3, c.after)
		before := runAt(4, j, 3, c.before)
		want.Done = before.Done
		got, later := impl.RunVertex(crossing(), before, wantSet(4, c.now...), c.v)
		if !sameRun(got, want) || !sameSet(later, wantSet(4, c.later...)) {
			t.Errorf("%s: %s becomes %s with %s, want %s with the members %v", c.what, brief(before), brief(got), brief(later), brief(want), c.later)
		}
		checkRun(t, c.what, crossing(), before, wantSet(4, c.now...))
	}
}

// ring has an edge to every vertex from the next one, and from the first vertex to the last.
func ring(n int) impl.Graph {
	g := graph(n)
	for v := range n {
		g.Edges = append(g.Edges, edge((v+1)%n, v, 1))
	}
	return g
}

// turned are ranks that stay as they are from edge to edge of a ring of three, but move around it.
func turned(iter int) impl.Run {
	const a, b = 1048567, 1048573
	switch {
	case iter == 0:
		return runAt(3, job(rank, 0), 0, state{times(3, 7), []int{a, b, a}, []int{0, 1, 2}})
	case iter%2 == 1:
		return runAt(3, job(rank, 0), iter, state{[]int{a, b, a}, []int{b, a, a}, []int{0, 1}})
	}
	return runAt(3, job(rank, 0), iter, state{[]int{b, a, b}, []int{a, b, b}, []int{0, 1}})
}

func TestRunsEndAtTheGreatestNumberOfIterations(t *testing.T) {
	g := ring(3)
	for iter := range 1000 {
		got, ok := impl.RunIter(g, turned(iter))
		if !ok || !sameRun(got, turned(iter+1)) {
			t.Errorf("RunIter(%s) = %s, %v, want %s", brief(turned(iter)), brief(got), ok, brief(turned(iter+1)))
		}
		for _, most := range []int{1000 - iter, 1001 - iter, 1000, 1001, 5000, math.MaxInt} {
			if got := impl.RunAll(g, turned(iter), most); !sameRun(got, turned(1000)) {
				t.Errorf("RunAll(%s, %d) = %s, want %s", brief(turned(iter)), most, brief(got), brief(turned(1000)))
			}
		}
		if got := impl.RunAll(g, turned(iter), 999-iter); !sameRun(got, turned(999)) {
			t.Errorf("RunAll(%s, %d) = %s, want %s", brief(turned(iter)), 999-iter, brief(got), brief(turned(999)))
		}
	}
	checkRunIter(t, "the greatest number", g, turned(1000), false)
	if got, ok := impl.RunIter(g, turned(1000)); ok || !isNoRun(got) {
		t.Errorf("RunIter after 1000 iterations = %s, %v", brief(got), ok)
	}
	for _, most := range mostsToTry {
		if got := impl.RunAll(g, turned(1000), most); !sameRun(got, turned(1000)) {
			t.Errorf("RunAll(%d) after 1000 iterations = %s", most, brief(got))
		}
	}
}

// restless is a graph whose ranks, from their first values on, never come to an end: they go around the circle of 1, 3 and 2.
func restless() impl.Graph {
	return graph(4, edge(0, 0, 1), edge(0, 1, 1), edge(1, 3, 1), edge(2, 1, 1), edge(3, 2, 1))
}

func TestRanksMayTakeAllIterations(t *testing.T) {
	g := restless()
	end := checkHistory(t, "restless", g, job(rank, 0))
	first, _ := impl.RunNew(g, job(rank, 0))
	if got := impl.RunAll(g, first, math.MaxInt); got.Done || got.Iter != 1000 || !sameRun(got, end) {
		t.Errorf("the ranks of %s come to %s", brief(g), brief(got))
	}
	checkSplit(t, "restless", g, first, 0, 1, 400, 999, 1000, 1001)
	checkRun(t, "restless", g, end)
}

// runGraphs are without vertices, without edges, with loops, with parallel edges, with cycles, or with several components.
func runGraphs(r *rand.Rand) []impl.Graph {
	l := append(goodGraphs(), crossing(), ring(2), ring(3), ring(8), ring(9), ring(150), bothWays(ring(20)))
	l = append(l,
		graph(1, edge(0, 0, 3), edge(0, 0, 3), edge(0, 0, 4)),
		graph(4, edge(0, 1, 1), edge(0, 1, 2), edge(1, 0, 1), edge(2, 3, 5), edge(3, 2, 0), edge(3, 3, 1)),
		graph(6, edge(5, 0, 1), edge(0, 5, 2), edge(4, 2, 7), edge(2, 3, 1), edge(3, 4, 1)),
	)
	for _, size := range [][2]int{{2, 3}, {3, 2}, {5, 5}, {8, 8}, {9, 20}, {16, 9}, {17, 60}, {40, 30}, {40, 200}, {149, 100}, {150, 180}, {150, 400}} {
		l = append(l, randomGraph(r, size[0], size[1]), randomGraph(r, size[0], size[1]))
	}
	return l
}

// checkSplit executes a run in two parts.
func checkSplit(t *testing.T, what string, g impl.Graph, r impl.Run, parts ...int) {
	t.Helper()
	for _, a := range parts {
		first := impl.RunAll(g, r, a)
		for _, b := range parts {
			if got, once := impl.RunAll(g, first, b), impl.RunAll(g, r, a+b); !sameRun(got, once) || !sameRun(got, wantRunAll(g, r, a+b)) {
				t.Errorf("%s: RunAll(%s, %s) of %d and %d is %s, and at once %s", what, brief(g), brief(r), a, b, brief(got), brief(once))
			}
		}
	}
}

// checkFinished updates every vertex of a run that is done once more.
func checkFinished(t *testing.T, what string, g impl.Graph, r impl.Run) {
	t.Helper()
	if g.N == 0 {
		return
	}
	r = cloneRun(r)
	r.Iter = min(r.Iter, 999)
	got, ok := impl.RunIter(g, withNext(r, allOf(g.N)))
	r.Iter++
	if !ok || !r.Done || !sameRun(got, r) {
		t.Errorf("%s: %s of %s, with all vertices updated again, becomes %s, %v", what, brief(r), brief(g), brief(got), ok)
	}
}

// checkAnswers checks what the promise P5 says of components and paths.
func checkAnswers(t *testing.T, what string, g impl.Graph, r impl.Run) {
	t.Helper()
	want := r.Vals
	switch r.Job.Prog {
	case conn:
		want = wantComponents(g)
	case path:
		want = distances(g)[r.Job.Src]
	default:
		return
	}
	if !r.Done || r.Iter > g.N+1 || !slices.Equal(r.Vals, want) {
		t.Errorf("%s: %s of %s has come to %s, want the values %s", what, progNames[r.Job.Prog], brief(g), brief(r), brief(want))
	}
}

// checkHistory executes a job from its first values to its end, and returns the end.
func checkHistory(t *testing.T, what string, g impl.Graph, j impl.Job) impl.Run {
	t.Helper()
	r := checkRunNew(t, what, g, j, true)
	first := r
	checkRunOk(t, what, g, r, true)
	for !r.Done && r.Iter < 1000 {
		r = checkRunIter(t, what, g, r, true)
	}
	checkRunIter(t, what, g, r, false)
	checkRunAll(t, what, g, first, 0, 1, 2, r.Iter, math.MaxInt)
	if r.Done {
		checkFinished(t, what, g, r)
	}
	checkAnswers(t, what, g, r)
	return r
}

func TestRunsOfGraphs(t *testing.T) {
	r := rand.New(rand.NewSource(71))
	for _, g := range runGraphs(r) {
		for _, j := range jobsOf(g.N) {
			end := checkHistory(t, progNames[j.Prog], g, j)
			first, _ := impl.RunNew(g, j)
			checkSplit(t, progNames[j.Prog], g, first, 0, 1, 2, 3, end.Iter, end.Iter+1)
			checkRun(t, "the first values", g, first, someOf(r, g.N, 2))
			checkRun(t, "the last values", g, end, someOf(r, g.N, 2))
			checkRun(t, "values between", g, impl.RunAll(g, first, end.Iter/2), someOf(r, g.N, 2))
		}
	}
}

func TestRunsOfEverySmallGraph(t *testing.T) {
	for n, m := range []int{0, 4, 3, 3, 2} {
		everyGraph(n, m, func(g impl.Graph) {
			for _, j := range jobsOf(n) {
				checkHistory(t, progNames[j.Prog], g, j)
			}
		})
	}
}

func TestRunsOfRandomGraphs(t *testing.T) {
	r := rand.New(rand.NewSource(72))
	for i := range 300 {
		n := 1 + r.Intn(12)
		if i%30 == 0 {
			n = 1 + r.Intn(150)
		}
		g := randomGraph(r, n, min(r.Intn(4*n), 400))
		for _, j := range []impl.Job{job(rank, 0), job(conn, 0), job(path, r.Intn(n)), job(label, 0)} {
			checkHistory(t, progNames[j.Prog], g, j)
		}
	}
}

func TestRunNewOfEverySize(t *testing.T) {
	r := rand.New(rand.NewSource(73))
	for n := range 151 {
		g := randomGraph(r, n, r.Intn(401))
		for _, j := range jobsOf(n) {
			checkRunNew(t, "a size", g, j, true)
		}
		for m := n; m <= 400 && n > 0; m += 151 {
			checkRunNew(t, "a number of edges", randomGraph(r, n, m), job(rank, 0), true)
			checkRunNew(t, "a number of edges", randomGraph(r, n, m), job(label, 0), true)
		}
	}
}

// randomVal prefers labels and the limits.
func randomVal(r *rand.Rand, n int) int {
	switch r.Intn(8) {
	case 0:
		return r.Intn(far + 1)
	case 1:
		return far - r.Intn(3)
	case 2:
		return r.Intn(3)
	case 3:
		return r.Intn(2000000)
	}
	return r.Intn(n)*1000 + r.Intn(n)
}

// randomRun is valid, but most likely no program comes to it.
func randomRun(r *rand.Rand, g impl.Graph, prog int) impl.Run {
	out := impl.Run{Job: job(prog, 0), Iter: anyOf(r, []int{0, 1, 500, 997, 998, 999, 1000})}
	if prog == path {
		out.Job.Src = r.Intn(g.N)
	}
	for range g.N {
		out.Vals = append(out.Vals, randomVal(r, g.N))
	}
	for range g.Edges {
		out.EVals = append(out.EVals, randomVal(r, g.N))
	}
	return withNext(out, someOf(r, g.N, 1+r.Intn(6)))
}

func TestAnyRun(t *testing.T) {
	r := rand.New(rand.NewSource(74))
	done := map[bool]int{}
	for i := range 400 {
		n := 1 + r.Intn(10)
		if i%40 == 0 {
			n = 1 + r.Intn(150)
		}
		g := randomGraph(r, n, min(r.Intn(3*n), 400))
		for _, prog := range everyProg {
			x := randomRun(r, g, prog)
			checkRunOk(t, "some run", g, x, true)
			for _, v := range verticesToTry(n) {
				checkViews(t, "some run", g, x, v)
				checkRunVertex(t, "some run", g, x, someOf(r, n, 3), v)
			}
			checkRunIter(t, "some run", g, x, !x.Done && x.Iter < 1000)
			checkRunAll(t, "some run", g, x, 0, 1, 2, 3, 4)
			checkSplit(t, "some run", g, x, 0, 1, 2)
			done[x.Done]++
		}
	}
	if done[true] < 50 || done[false] < 50 {
		t.Errorf("done or not: %v", done)
	}
}

// iterByVertices is an iteration as the document describes it, with RunVertex for each vertex. RunVertex needs Done to fit Next.
func iterByVertices(g impl.Graph, r impl.Run) impl.Run {
	now, next := r.Next, wantSet(g.N)
	for v := range g.N {
		if impl.Has(now, v) {
			r, now = impl.RunVertex(g, withNext(r, next), now, v)
			next = r.Next
		}
	}
	r.Iter++
	return withNext(r, next)
}

func TestAnIterationIsItsVerticesOneAfterTheOther(t *testing.T) {
	r := rand.New(rand.NewSource(75))
	for _, g := range runGraphs(r) {
		if g.N == 0 {
			continue
		}
		for _, j := range jobsOf(g.N) {
			first, _ := impl.RunNew(g, j)
			for _, x := range []impl.Run{first, impl.RunAll(g, first, 1), impl.RunAll(g, first, 3), randomRun(r, g, j.Prog)} {
				if x.Done || x.Iter == 1000 {
					continue
				}
				if got, ok := impl.RunIter(g, x); !ok || !sameRun(got, iterByVertices(g, x)) {
					t.Errorf("RunIter(%s, %s) = %s, %v, and by its vertices %s", brief(g), brief(x), brief(got), ok, brief(iterByVertices(g, x)))
				}
			}
		}
	}
}

// spoiled is a run that one condition makes invalid.
type spoiled struct {
	what string
	g    impl.Graph
	r    impl.Run
}

var notIters = []int{math.MinInt, math.MinInt + 1, -1 << 32, -1000, -2, -1, 1001, 1002, 2000, 1 << 16, 1 << 32, 1<<32 + 5, math.MaxInt}

// spoiledGraphs changes only the graph, one that has vertices and edges.
func spoiledGraphs(g impl.Graph, r impl.Run) []spoiled {
	var l []spoiled
	for at := range g.Edges {
		for _, e := range []impl.Edge{edge(g.N, 0, 1), edge(0, g.N, 1), edge(-1, 0, 1), edge(0, -1, 1), edge(0, 0, -1), edge(0, 0, 1001), edge(math.MinInt, 0, 0), edge(0, math.MaxInt, 0)} {
			other := impl.Graph{N: g.N, Edges: slices.Clone(g.Edges)}
			other.Edges[at] = e
			l = append(l, spoiled{"an edge", other, r})
		}
	}
	for _, n := range []int{g.N - 1, g.N + 1, 0, 150, 151, -1, math.MinInt, math.MaxInt} {
		if n != g.N {
			l = append(l, spoiled{"the number of vertices", impl.Graph{N: n, Edges: g.Edges}, r})
		}
	}
	more := cloneRun(r)
	more.EVals = times(401, 5)
	return append(l, spoiled{"too many edges", sameEdges(g.N, 401, edge(0, 0, 1)), more})
}

func spoiledJobs(g impl.Graph, r impl.Run) []spoiled {
	var l []spoiled
	add := func(what string, j impl.Job) {
		other := cloneRun(r)
		other.Job = j
		l = append(l, spoiled{what, g, other})
	}
	for _, prog := range notProgs {
		add("the program", job(prog, 0))
		add("the program", job(prog, g.N-1))
	}
	for _, src := range []int{math.MinInt, -1, 1, g.N - 1, g.N, g.N + 1, 149, 150, math.MaxInt} {
		for _, prog := range everyProg {
			if !wantJobOk(g.N, job(prog, src)) {
				add("the source", job(prog, src))
			}
		}
	}
	return l
}

func spoiledValues(g impl.Graph, r impl.Run) []spoiled {
	var l []spoiled
	add := func(what string, change func(x *impl.Run)) {
		other := cloneRun(r)
		change(&other)
		l = append(l, spoiled{what, g, other})
	}
	for _, iter := range notIters {
		add("the number of iterations", func(x *impl.Run) { x.Iter = iter })
	}
	for _, val := range notUpTo(far) {
		for at := range r.Vals {
			add("a value of a vertex", func(x *impl.Run) { x.Vals[at] = val })
		}
		for at := range r.EVals {
			add("a value of an edge", func(x *impl.Run) { x.EVals[at] = val })
		}
	}
	add("one value too many", func(x *impl.Run) { x.Vals = append(x.Vals, 0) })
	add("one value too few", func(x *impl.Run) { x.Vals = x.Vals[1:] })
	add("no values", func(x *impl.Run) { x.Vals = nil })
	add("far too many values", func(x *impl.Run) { x.Vals = times(1000, 5) })
	add("one value of an edge too many", func(x *impl.Run) { x.EVals = append(x.EVals, 0) })
	add("one value of an edge too few", func(x *impl.Run) { x.EVals = x.EVals[1:] })
	add("no values of edges", func(x *impl.Run) { x.EVals = nil })
	add("far too many values of edges", func(x *impl.Run) { x.EVals = times(1000, 5) })
	return l
}

func spoiledSets(g impl.Graph, r impl.Run) []spoiled {
	next := []impl.Set{{}, wantSet(g.N - 1), allOf(g.N - 1), wantSet(g.N + 1), allOf(g.N + 1), wantSet(150), set(g.N), set(g.N, append(r.Next.Bits, 0)...)}
	over := cloneSet(r.Next)
	over.Bits[len(over.Bits)-1] |= 128
	next = append(next, over)
	var l []spoiled
	for _, s := range append(next, badSets()...) {
		if s.N == g.N && wantSetOk(s) {
			continue
		}
		for _, done := range []bool{false, true} {
			other := cloneRun(r)
			other.Next, other.Done = s, done
			l = append(l, spoiled{"the set", g, other})
		}
	}
	for v := range g.N {
		other := withNext(cloneRun(r), wantSet(g.N, v))
		other.Done = true
		l = append(l, spoiled{"done with a vertex in Next", g, other})
	}
	other := withNext(cloneRun(r), wantSet(g.N))
	other.Done = false
	return append(l, spoiled{"not done without a vertex in Next", g, other})
}

// soundRuns have vertices and edges, and a number of vertices that leaves room in the last byte of a set.
func soundRuns() []spoiled {
	var l []spoiled
	for _, prog := range everyProg {
		j := job(prog, 0)
		if prog == path {
			j.Src = 2
		}
		r, _ := wantRunNew(crossing(), j)
		l = append(l, spoiled{"sound", crossing(), r}, spoiled{"sound", crossing(), withNext(cloneRun(r), wantSet(4))}, spoiled{"sound", crossing(), wantRunAll(crossing(), r, 1)})
	}
	g := randomGraph(rand.New(rand.NewSource(76)), 150, 4)
	r, _ := wantRunNew(g, job(conn, 0))
	return append(l, spoiled{"sound", g, r})
}

func spoiledRuns() []spoiled {
	var l []spoiled
	for _, s := range soundRuns() {
		l = slices.Concat(l, spoiledGraphs(s.g, s.r), spoiledJobs(s.g, s.r), spoiledValues(s.g, s.r), spoiledSets(s.g, s.r))
	}
	return l
}

func TestRunsThatAreNotValid(t *testing.T) {
	for _, s := range soundRuns() {
		checkRun(t, s.what, s.g, s.r)
	}
	for i, s := range spoiledRuns() {
		checkRunOk(t, s.what, s.g, s.r, false)
		checkRunIter(t, s.what, s.g, s.r, false)
		if i%7 == 0 {
			checkNoRun(t, s.what, s.g, s.r)
		}
	}
	for _, g := range badGraphs() {
		checkNoRun(t, "a graph that is not valid", g, impl.Run{})
		n := min(max(g.N, 0), 200)
		r := impl.Run{Job: job(conn, 0), Vals: times(n, 5), EVals: times(len(g.Edges), 5)}
		checkNoRun(t, "a graph that is not valid", g, withNext(r, allOf(n)))
	}
	checkNoRun(t, "the zero value", graph(0), impl.Run{})
	checkNoRun(t, "the zero value", graph(3), impl.Run{})
}

func TestNumbersOfIterationsAndValues(t *testing.T) {
	for _, s := range soundRuns() {
		for _, iter := range []int{0, 1, 2, 500, 998, 999, 1000} {
			r := cloneRun(s.r)
			r.Iter = iter
			checkRun(t, "iterations", s.g, r)
		}
		for _, val := range []int{0, 1, far - 1, far} {
			r := cloneRun(s.r)
			fillInts(r.Vals, val)
			checkRun(t, "values", s.g, r)
			fillInts(r.EVals, val)
			checkRun(t, "values of edges", s.g, r)
		}
	}
}

func TestEveryNextSet(t *testing.T) {
	for _, prog := range everyProg {
		j := job(prog, 0)
		first, _ := impl.RunNew(crossing(), j)
		everySet(4, func(s impl.Set, members []int) {
			if s.N != 4 {
				return
			}
			checkRun(t, "a set", crossing(), withNext(first, s), s)
			checkHistoryFrom(t, "a set", crossing(), withNext(first, s))
		})
	}
}

// checkHistoryFrom goes on with any valid run for some iterations.
func checkHistoryFrom(t *testing.T, what string, g impl.Graph, r impl.Run) {
	t.Helper()
	for range 6 {
		if r.Done {
			return
		}
		r = checkRunIter(t, what, g, r, true)
	}
}

func TestNoNewRuns(t *testing.T) {
	for _, g := range badGraphs() {
		for _, prog := range everyProg {
			for _, src := range []int{0, 1, 2, g.N - 1, -1} {
				checkRunNew(t, "a graph that is not valid", g, job(prog, src), false)
			}
		}
	}
	for _, g := range []impl.Graph{graph(0), graph(1), crossing(), ring(150)} {
		for _, prog := range append(notProgs, everyProg...) {
			for _, src := range append([]int{g.N - 1, g.N, g.N + 1, -g.N}, anySrc...) {
				j := job(prog, src)
				checkRunNew(t, "a job", g, j, wantJobOk(g.N, j))
			}
		}
	}
	for _, src := range anySrc {
		checkRunNew(t, "a path without vertices", graph(0), job(path, src), false)
	}
}

func TestSetsForOneVertex(t *testing.T) {
	for _, s := range soundRuns() {
		for _, v := range verticesToTry(s.g.N) {
			for _, now := range append(badSets(), wantSet(s.g.N-1), allOf(s.g.N-1), wantSet(0)) {
				if got, later := impl.RunVertex(s.g, s.r, now, v); !isNoRun(got) || !isNoSet(later) {
					t.Errorf("RunVertex(%s, %s, %s, %d) = %s, %s", brief(s.g), brief(s.r), brief(now), v, brief(got), brief(later))
				}
				checkRunVertex(t, "a set that does not fit", s.g, s.r, now, v)
			}
		}
	}
	g := crossing()
	r, _ := impl.RunNew(g, job(conn, 0))
	for n := range 151 {
		for v := range 4 {
			checkRunVertex(t, "a number of vertices", g, r, wantSet(n), v)
			checkRunVertex(t, "a number of vertices", g, r, allOf(n), v)
		}
	}
}

func TestDoneStaysAsItIsForOneVertex(t *testing.T) {
	g := crossing()
	first, _ := impl.RunNew(g, job(conn, 0))
	r := withNext(first, wantSet(4))
	got, now := impl.RunVertex(g, r, wantSet(4), 2)
	if !r.Done || !got.Done || !sameSet(got.Next, wantSet(4, 0, 1, 2)) || !sameSet(now, wantSet(4, 3)) {
		t.Errorf("RunVertex of a run that is done = %s, %s", brief(got), brief(now))
	}
	got, _ = impl.RunVertex(g, first, wantSet(4), 2)
	if first.Done || got.Done {
		t.Errorf("RunVertex of a run that is not done = %s", brief(got))
	}
}

func TestRunsWithNilOrEmptySlices(t *testing.T) {
	for _, n := range []int{0, 3} {
		for _, prog := range []int{rank, conn, label} {
			bare := impl.Run{Job: job(prog, 0), Done: n == 0, Vals: times(n, 0), Next: allOf(n)}
			empty := bare
			empty.Vals, empty.EVals, empty.Next.Bits = append([]int{}, bare.Vals...), []int{}, append([]byte{}, bare.Next.Bits...)
			if n == 0 {
				bare.Vals, bare.Next.Bits = nil, nil
			}
			for _, g := range []impl.Graph{graph(n), {N: n, Edges: []impl.Edge{}}} {
				checkRunNew(t, "no edges", g, job(prog, 0), true)
				checkRun(t, "nil", g, bare)
				checkRun(t, "empty", g, empty)
			}
		}
	}
}

func fillRun(r impl.Run, x int) {
	fillInts(r.Vals, x)
	fillInts(r.EVals, x+1)
	fillSet(r.Next, byte(x+2))
}

// checkApart fills the slices of a result one after the other.
func checkApart(t *testing.T, what string, r impl.Run, now impl.Set) {
	t.Helper()
	kept, keptNow := cloneRun(r), cloneSet(now)
	fillInts(r.Vals, 71)
	kept.Vals = times(len(kept.Vals), 71)
	ok := sameRun(r, kept) && sameSet(now, keptNow)
	fillInts(r.EVals, 72)
	kept.EVals = times(len(kept.EVals), 72)
	ok = ok && sameRun(r, kept) && sameSet(now, keptNow)
	fillSet(r.Next, 73)
	fill(kept.Next.Bits, 73)
	ok = ok && sameRun(r, kept) && sameSet(now, keptNow)
	fillSet(now, 74)
	if !ok || !sameRun(r, kept) {
		t.Errorf("%s: the result shares memory: %s", what, brief(r))
	}
}

// lentRun is a run, its graph and a set, with more behind each of their slices.
type lentRun struct {
	g     impl.Graph
	r     impl.Run
	now   impl.Set
	edges []impl.Edge
	nums  [2][]int
	bytes [2][]byte
}

func lendRun(g impl.Graph, r impl.Run, now impl.Set) lentRun {
	l := lentRun{edges: append(slices.Clone(g.Edges), edge(7, 8, 9), edge(-1, -2, -3))}
	for i, list := range [][]int{r.Vals, r.EVals} {
		l.nums[i] = append(slices.Clone(list), 4, 5, 6)
	}
	for i, s := range []impl.Set{r.Next, now} {
		l.bytes[i] = append(slices.Clone(s.Bits), 1, 2, 255)
	}
	l.g = impl.Graph{N: g.N, Edges: l.edges[:len(g.Edges)]}
	l.r = impl.Run{Job: r.Job, Iter: r.Iter, Done: r.Done, Vals: l.nums[0][:len(r.Vals)], EVals: l.nums[1][:len(r.EVals)]}
	l.r.Next = impl.Set{N: r.Next.N, Bits: l.bytes[0][:len(r.Next.Bits)]}
	l.now = impl.Set{N: now.N, Bits: l.bytes[1][:len(now.Bits)]}
	return l
}

func (l lentRun) same(k lentRun) bool {
	ok := sameGraph(l.g, k.g) && sameRun(l.r, k.r) && sameSet(l.now, k.now) && slices.Equal(l.edges, k.edges)
	for i := range l.nums {
		ok = ok && slices.Equal(l.nums[i], k.nums[i]) && slices.Equal(l.bytes[i], k.bytes[i])
	}
	return ok
}

// useUp calls every function, and overwrites what it returns.
func (l lentRun) useUp(t *testing.T) {
	t.Helper()
	impl.RunOk(l.g, l.r)
	fresh, _ := impl.RunNew(l.g, l.r.Job)
	checkApart(t, "RunNew", fresh, impl.Set{})
	for _, v := range []int{-1, 0, 1, l.g.N / 2, l.g.N - 1, l.g.N} {
		seen, at := impl.Views(l.g, l.r, v)
		fillInts(at, 75)
		for i := range seen[:cap(seen)] {
			seen[:cap(seen)][i] = impl.View{W: 76, Val: 77}
		}
		after, later := impl.RunVertex(l.g, l.r, l.now, v)
		checkApart(t, "RunVertex", after, later)
		after, later = impl.RunVertex(l.g, l.r, l.r.Next, v)
		checkApart(t, "RunVertex", after, later)
	}
	after, _ := impl.RunIter(l.g, l.r)
	checkApart(t, "RunIter", after, impl.Set{})
	for _, most := range []int{-1, 0, 1, 4} {
		checkApart(t, "RunAll", impl.RunAll(l.g, l.r, most), impl.Set{})
	}
}

// runsToLend are runs of any kind, valid or not.
func runsToLend(r *rand.Rand) []spoiled {
	var l []spoiled
	for _, g := range runGraphs(r) {
		for _, j := range jobsOf(g.N) {
			first, _ := wantRunNew(g, j)
			l = append(l, spoiled{"new", g, first}, spoiled{"later", g, wantRunAll(g, first, 2)}, spoiled{"done", g, withNext(first, wantSet(g.N))})
		}
	}
	for i, s := range spoiledRuns() {
		if i%50 == 0 {
			l = append(l, s)
		}
	}
	return append(l, soundRuns()...)
}

func TestRunArgumentsStayAsTheyAre(t *testing.T) {
	r := rand.New(rand.NewSource(77))
	for _, s := range runsToLend(r) {
		n := min(max(s.g.N, 0), 150)
		for _, now := range []impl.Set{wantSet(n), allOf(n), someOf(r, n, 3), set(9, 255), {}} {
			lent, kept := lendRun(s.g, s.r, now), lendRun(s.g, s.r, now)
			lent.useUp(t)
			if !lent.same(kept) {
				t.Errorf("%s: %s and %s became %s and %s", s.what, brief(kept.r), brief(kept.now), brief(lent.r), brief(lent.now))
			}
		}
	}
}

// TestRunsWhoseSlicesShareMemory has the same memory for the values of the vertices and of the edges, and for both sets.
func TestRunsWhoseSlicesShareMemory(t *testing.T) {
	for _, g := range []impl.Graph{ring(2), ring(3), ring(9), graph(1, edge(0, 0, 0)), graph(3, edge(0, 1, 1), edge(2, 2, 1), edge(2, 0, 1))} {
		for _, j := range jobsOf(g.N) {
			for _, next := range []impl.Set{wantSet(g.N), allOf(g.N), wantSet(g.N, 0)} {
				nums := upTo(7000*g.N, 7000)
				r := withNext(impl.Run{Job: j, Iter: 4, Vals: nums, EVals: nums}, next)
				kept := cloneRun(r)
				checkRun(t, "shared memory", g, r, r.Next)
				for v := range g.N {
					after, later := impl.RunVertex(g, r, r.Next, v)
					checkApart(t, "shared memory", after, later)
				}
				after, _ := impl.RunIter(g, r)
				checkApart(t, "shared memory", after, impl.Set{})
				checkApart(t, "shared memory", impl.RunAll(g, r, 0), impl.Set{})
				checkApart(t, "shared memory", impl.RunAll(g, r, 2), impl.Set{})
				if !sameRun(r, kept) {
					t.Errorf("%s became %s", brief(kept), brief(r))
				}
			}
		}
	}
}

// TestRunsAreNewMemory fills some results, and then looks at others of the same arguments.
func TestRunsAreNewMemory(t *testing.T) {
	for _, s := range soundRuns() {
		fresh, _ := impl.RunNew(s.g, s.r.Job)
		fillRun(fresh, 81)
		after, _ := impl.RunIter(s.g, s.r)
		fillRun(after, 84)
		fillRun(impl.RunAll(s.g, s.r, 0), 87)
		for v := range s.g.N {
			after, later := impl.RunVertex(s.g, s.r, s.r.Next, v)
			fillRun(after, 90)
			fillSet(later, 93)
			_, at := impl.Views(s.g, s.r, v)
			fillInts(at, 94)
		}
		checkRunNew(t, "new memory", s.g, s.r.Job, true)
		checkRun(t, "new memory", s.g, s.r, s.r.Next)
	}
}
