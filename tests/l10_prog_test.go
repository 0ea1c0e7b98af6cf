package tests

import (
	"maps"
	"math"
	"math/big"
	"math/rand"
	"slices"
	"testing"

	"loop.example/g00671/impl"
)

// The models have numbers of their own instead of the program's constants, which they would follow otherwise.
const (
	rank  = 1
	conn  = 2
	path  = 3
	label = 4
	far   = 1 << 40
)

var everyProg = []int{rank, conn, path, label}

var progNames = []string{rank: "rank", conn: "conn", path: "path", label: "label"}

var notProgs = []int{math.MinInt, math.MinInt + 1, math.MinInt + 3, -1 << 32, -1<<32 + 1, -256, -255, -4, -3, -2, -1, 0, 5, 6, 7, 8, 255, 256, 257, 260, 1 << 32, 1<<32 + 1, 1<<32 + 4, math.MaxInt - 1, math.MaxInt}

// anySrc are sources that only one of the programs looks at.
var anySrc = []int{math.MinInt, -150, -1, 0, 1, 2, 4, 75, 149, 150, 151, math.MaxInt}

// notUpTo are ints that are not from 0 to most, among them those whose low bits are.
func notUpTo(most int) []int {
	l := []int{math.MinInt, math.MinInt + 1, -1 << 41, -far, -1<<32 + 1, -1 << 32, -256, -most - 1, -most, -2, -1, most + 1, most + 2, 1 << 41, 1<<41 + 1, 1<<48 + 1, 1 << 62, math.MaxInt - 1, math.MaxInt}
	return slices.DeleteFunc(l, func(x int) bool { return within(x, most) })
}

func job(prog, src int) impl.Job { return impl.Job{Prog: prog, Src: src} }

func arrives(val int) impl.View { return impl.View{In: true, Val: val} }

func leaves(val int) impl.View { return impl.View{Out: true, Val: val} }

func loops(val int) impl.View { return impl.View{In: true, Out: true, Val: val} }

func weighs(w int, e impl.View) impl.View {
	e.W = w
	return e
}

func views(l ...impl.View) []impl.View { return l }

func manyViews(m int, e impl.View) []impl.View { return slices.Repeat(views(e), m) }

func wantJobOk(n int, j impl.Job) bool {
	ok := map[int]bool{rank: j.Src == 0, conn: j.Src == 0, path: j.Src >= 0 && j.Src < n, label: j.Src == 0}
	return ok[j.Prog]
}

// wantAddCap drops what is negative and limits only the sum, which comes to the same.
func wantAddCap(a, b int) int {
	sum := new(big.Int)
	for _, n := range []int{a, b} {
		if n > 0 {
			sum.Add(sum, big.NewInt(int64(n)))
		}
	}
	if sum.Cmp(big.NewInt(far)) > 0 {
		return far
	}
	return int(sum.Int64())
}

func wantFirstVal(j impl.Job, v int) int {
	if !within(v, 149) {
		return 0
	}
	distance := far
	if v == j.Src {
		distance = 0
	}
	return map[int]int{rank: 1048576, conn: v, path: distance, label: v}[j.Prog]
}

func wantFirstEdge(j impl.Job, from, to, deg int) int {
	if !within(from, 149) || !within(to, 149) || deg < 1 || deg > 400 {
		return 0
	}
	return map[int]int{rank: 1048576 / deg, conn: far, path: far, label: 1000*from + to}[j.Prog]
}

func wantUpdateOk(j impl.Job, v, val int, l []impl.View) bool {
	if !within(j.Prog-1, 3) || !within(v, 149) || !within(val, far) || len(l) > 400 {
		return false
	}
	return !slices.ContainsFunc(l, func(e impl.View) bool {
		return !e.In && !e.Out || !within(e.W, 1000) || !within(e.Val, far)
	})
}

// valuesOf are the values that each returns for the elements that are to be taken.
func valuesOf(l []impl.View, take func(e impl.View) bool, each func(e impl.View) int) []int {
	var out []int
	for _, e := range l {
		if take(e) {
			out = append(out, each(e))
		}
	}
	return out
}

func isIn(e impl.View) bool { return e.In }

func isOut(e impl.View) bool { return e.Out }

func anyView(impl.View) bool { return true }

func valueOf(e impl.View) int { return e.Val }

func wantRank(l []impl.View) (int, func(e impl.View) int) {
	sum := 0
	for _, x := range valuesOf(l, isIn, valueOf) {
		sum += x
	}
	val := min(157286+min(sum, far)*17/20, far)
	count := len(valuesOf(l, isOut, valueOf))
	return val, func(e impl.View) int {
		if !e.Out {
			return e.Val
		}
		return (val - val%count) / count
	}
}

func wantConn(val int, l []impl.View) (int, func(e impl.View) int) {
	val = slices.Min(append(valuesOf(l, anyView, valueOf), val))
	return val, func(impl.View) int { return val }
}

func wantPath(val int, l []impl.View) (int, func(e impl.View) int) {
	sums := valuesOf(l, isIn, func(e impl.View) int { return e.Val + e.W })
	val = slices.Min(append(sums, val, far))
	return val, func(e impl.View) int {
		if !e.Out {
			return e.Val
		}
		return val
	}
}

func wantLabel(val int, l []impl.View) (int, func(e impl.View) int) {
	counts := map[int]int{}
	for _, x := range valuesOf(l, isIn, valueOf) {
		counts[x/1000]++
	}
	for _, x := range valuesOf(l, isOut, valueOf) {
		counts[x%1000]++
	}
	if len(counts) > 0 {
		most := slices.Max(slices.Collect(maps.Values(counts)))
		maps.DeleteFunc(counts, func(_, count int) bool { return count < most })
		val = slices.Min(slices.Collect(maps.Keys(counts)))
	}
	return val, func(e impl.View) int {
		switch {
		case e.In && e.Out:
			return min(1001*val, far)
		case e.In:
			return min(e.Val-e.Val%1000+val, far)
		}
		return min(1000*val+e.Val%1000, far)
	}
}

func wantUpdate(j impl.Job, v, val int, l []impl.View) (int, []int) {
	if !wantUpdateOk(j, v, val, l) {
		return 0, nil
	}
	var each func(e impl.View) int
	switch j.Prog {
	case rank:
		val, each = wantRank(l)
	case conn:
		val, each = wantConn(val, l)
	case path:
		val, each = wantPath(val, l)
	default:
		val, each = wantLabel(val, l)
	}
	return val, valuesOf(l, anyView, each)
}

// checkPromised checks what the promise P5 says of one update, and the limits of what it returns.
func checkPromised(t *testing.T, what string, j impl.Job, val int, l []impl.View, got int, edges []int) {
	t.Helper()
	if len(edges) != len(l) || !within(got, far) || slices.ContainsFunc(edges, func(x int) bool { return !within(x, far) }) {
		t.Errorf("%s: %d edges get the values %s, the vertex %d", what, len(l), brief(edges), got)
		return
	}
	if (j.Prog == conn || j.Prog == path) && got > val {
		t.Errorf("%s: the value of the vertex increases from %d to %d", what, val, got)
	}
	for i, e := range l {
		if j.Prog == conn && edges[i] > e.Val {
			t.Errorf("%s: the value of the edge %d increases from %d to %d", what, i, e.Val, edges[i])
		}
	}
}

func checkUpdate(t *testing.T, what string, j impl.Job, v, val int, l []impl.View, want bool) {
	t.Helper()
	got, edges := impl.Update(j, v, val, l)
	model, modelEdges := wantUpdate(j, v, val, l)
	if got != model || !slices.Equal(edges, modelEdges) || wantUpdateOk(j, v, val, l) != want {
		t.Errorf("%s: Update(%+v, %d, %d, %s) = %d, %s, want %d, %s; valid: %v", what, j, v, val, brief(l), got, brief(edges), model, brief(modelEdges), want)
	}
	if want {
		checkPromised(t, what, j, val, l, got, edges)
	}
}

func checkRefusedUpdate(t *testing.T, what string, j impl.Job, v, val int, l []impl.View) {
	t.Helper()
	if got, edges := impl.Update(j, v, val, l); got != 0 || len(edges) != 0 {
		t.Errorf("%s: Update(%+v, %d, %d, %s) = %d, %s", what, j, v, val, brief(l), got, brief(edges))
	}
	checkUpdate(t, what, j, v, val, l, false)
}

func TestConstantsOfPrograms(t *testing.T) {
	got := []int{impl.PgRank, impl.PgConn, impl.PgPath, impl.PgLabel, impl.Scale, impl.Far, impl.Base}
	if want := []int{1, 2, 3, 4, 1048576, 1099511627776, 1000}; !slices.Equal(got, want) {
		t.Errorf("the constants are %v, want %v", got, want)
	}
}

func TestJobOkKnown(t *testing.T) {
	for _, c := range []struct {
		n, prog, src int
		want         bool
	}{
		{3, rank, 0, true}, {3, conn, 0, true}, {3, path, 0, true}, {3, label, 0, true}, {3, 0, 0, false}, {3, 5, 0, false}, {3, -1, 0, false},
		{3, rank, 2, false}, {3, conn, 2, false}, {3, path, 2, true}, {3, label, 2, false}, {3, 0, 2, false}, {3, 5, 2, false},
		{3, rank, 3, false}, {3, conn, 3, false}, {3, path, 3, false}, {3, label, 3, false},
		{3, rank, -1, false}, {3, conn, -1, false}, {3, path, -1, false}, {3, label, -1, false},
		{0, rank, 0, true}, {0, conn, 0, true}, {0, path, 0, false}, {0, label, 0, true}, {0, path, -1, false},
		{1, path, 0, true}, {1, path, 1, false}, {150, path, 149, true}, {150, path, 150, false},
		{math.MinInt, rank, 0, true}, {math.MinInt, conn, 0, true}, {math.MinInt, path, 0, false}, {math.MinInt, label, 0, true},
		{math.MinInt, path, math.MinInt, false}, {math.MinInt, path, math.MaxInt, false}, {-1, path, -2, false},
		{math.MaxInt, path, 0, true}, {math.MaxInt, path, math.MaxInt - 1, true}, {math.MaxInt, path, math.MaxInt, false}, {math.MaxInt, path, math.MinInt, false},
		{3, math.MinInt, 0, false}, {3, math.MaxInt, 0, false}, {3, rank, math.MinInt, false}, {3, label, math.MaxInt, false},
	} {
		if got := impl.JobOk(c.n, job(c.prog, c.src)); got != c.want {
			t.Errorf("JobOk(%d, program %d with the source %d) = %v", c.n, c.prog, c.src, got)
		}
	}
}

func TestJobsOfAnyNumbers(t *testing.T) {
	for _, n := range []int{math.MinInt, math.MinInt + 1, -150, -2, -1, 0, 1, 2, 3, 149, 150, 151, 1 << 32, math.MaxInt - 1, math.MaxInt} {
		for _, prog := range append(notProgs, everyProg...) {
			for _, src := range append([]int{n - 2, n - 1, n, n + 1, -n, 1 << 32}, anySrc...) {
				if j := job(prog, src); impl.JobOk(n, j) != wantJobOk(n, j) {
					t.Errorf("JobOk(%d, %+v) = %v", n, j, impl.JobOk(n, j))
				}
			}
		}
	}
}

func TestAddCapKnown(t *testing.T) {
	for _, c := range [][3]int{
		{0, 0, 0}, {3, 4, 7}, {-3, 5, 5}, {5, -3, 5}, {-1, -1, 0}, {-1, 0, 0}, {-1, far - 1, far - 1}, {-1, far, far}, {-1, far + 1, far}, {far + 5, -5, far}, {-5, far + 3, far},
		{0, far - 1, far - 1}, {0, far, far}, {0, far + 1, far}, {far - 1, 0, far - 1}, {far - 1, 1, far}, {far - 1, 2, far}, {far - 1, far - 1, far}, {far - 2, 1, far - 1},
		{far, far, far}, {far, 1, far}, {far + 1, far + 1, far}, {far / 2, far / 2, far}, {far / 2, far/2 - 1, far - 1}, {far / 2, far/2 + 1, far},
		{math.MinInt, math.MinInt, 0}, {math.MinInt, 0, 0}, {math.MinInt, 5, 5}, {math.MinInt, math.MaxInt, far}, {math.MaxInt, math.MinInt, far}, {math.MaxInt, math.MaxInt, far},
		{math.MaxInt, 1, far}, {math.MaxInt, 0, far}, {1, math.MaxInt, far}, {-1, math.MaxInt, far}, {math.MinInt, far - 1, far - 1}, {1 << 62, 1 << 62, far},
	} {
		if got := impl.AddCap(c[0], c[1]); got != c[2] {
			t.Errorf("AddCap(%d, %d) = %d, want %d", c[0], c[1], got, c[2])
		}
	}
}

func TestAddCapOfAnyPair(t *testing.T) {
	l := []int{math.MinInt, math.MinInt + 1, -1 << 62, -far - 1, -far, 1 - far, -1000, -1, 0, 1, 1000, far/2 - 1, far / 2, far/2 + 1, far - 1000, far - 1, far, far + 1, 2 * far, 1 << 62, math.MaxInt - far, math.MaxInt - 1, math.MaxInt}
	r := rand.New(rand.NewSource(61))
	for range 200 {
		l = append(l, int(r.Uint64())>>r.Intn(64), r.Intn(2*far)-far/2)
	}
	for _, a := range l {
		for _, b := range l {
			if got, want := impl.AddCap(a, b), wantAddCap(a, b); got != want {
				t.Errorf("AddCap(%d, %d) = %d, want %d", a, b, got, want)
			}
		}
	}
}

func TestFirstValKnown(t *testing.T) {
	for _, c := range []struct{ prog, src, v, want int }{
		{rank, 0, 0, 1048576}, {rank, 0, 149, 1048576}, {rank, 7, 7, 1048576}, {rank, 7, 8, 1048576}, {rank, 0, -1, 0}, {rank, 0, 150, 0},
		{conn, 0, 0, 0}, {conn, 0, 1, 1}, {conn, 0, 149, 149}, {conn, 7, 7, 7}, {conn, 7, 8, 8}, {conn, 0, -1, 0}, {conn, 0, 150, 0},
		{path, 0, 0, 0}, {path, 0, 1, far}, {path, 7, 7, 0}, {path, 7, 8, far}, {path, 149, 149, 0}, {path, 149, 0, far}, {path, 150, 149, far}, {path, -1, 0, far}, {path, 0, -1, 0}, {path, 0, 150, 0}, {path, -1, -1, 0}, {path, 150, 150, 0},
		{label, 0, 0, 0}, {label, 0, 1, 1}, {label, 0, 149, 149}, {label, 7, 7, 7}, {label, 7, 8, 8}, {label, 0, -1, 0}, {label, 0, 150, 0},
		{0, 0, 1, 0}, {5, 0, 1, 0}, {-1, 0, 1, 0}, {0, 0, 149, 0}, {5, 1, 149, 0}, {path, 3, math.MinInt, 0}, {path, 3, math.MaxInt, 0}, {rank, 0, math.MaxInt, 0},
	} {
		if got := impl.FirstVal(job(c.prog, c.src), c.v); got != c.want {
			t.Errorf("FirstVal(program %d with the source %d, %d) = %d, want %d", c.prog, c.src, c.v, got, c.want)
		}
	}
}

func TestFirstValOfEveryVertex(t *testing.T) {
	for _, prog := range append(notProgs, everyProg...) {
		for _, v := range append(upTo(152, 1), notUpTo(149)...) {
			for _, src := range append([]int{v, v + 1, v - 1}, anySrc...) {
				j := job(prog, src)
				if got, want := impl.FirstVal(j, v), wantFirstVal(j, v); got != want {
					t.Errorf("FirstVal(%+v, %d) = %d, want %d", j, v, got, want)
				}
			}
		}
	}
}

func TestFirstEdgeKnown(t *testing.T) {
	for _, c := range []struct{ prog, from, to, deg, want int }{
		{rank, 0, 1, 1, 1048576}, {rank, 0, 1, 2, 524288}, {rank, 0, 1, 3, 349525}, {rank, 0, 1, 4, 262144}, {rank, 149, 149, 399, 2628}, {rank, 149, 0, 400, 2621},
		{conn, 0, 1, 1, far}, {conn, 149, 149, 400, far}, {path, 0, 1, 1, far}, {path, 149, 149, 400, far},
		{label, 0, 0, 1, 0}, {label, 0, 1, 1, 1}, {label, 1, 0, 1, 1000}, {label, 3, 4, 1, 3004}, {label, 149, 149, 400, 149149}, {label, 0, 149, 5, 149}, {label, 149, 0, 5, 149000},
		{rank, -1, 1, 1, 0}, {rank, 1, -1, 1, 0}, {rank, 150, 1, 1, 0}, {rank, 1, 150, 1, 0}, {rank, 1, 1, 0, 0}, {rank, 1, 1, 401, 0}, {rank, 1, 1, -1, 0},
		{conn, -1, 1, 1, 0}, {conn, 1, -1, 1, 0}, {conn, 150, 1, 1, 0}, {conn, 1, 150, 1, 0}, {conn, 1, 1, 0, 0}, {conn, 1, 1, 401, 0}, {conn, 1, 1, -1, 0},
		{path, -1, 1, 1, 0}, {path, 1, -1, 1, 0}, {path, 150, 1, 1, 0}, {path, 1, 150, 1, 0}, {path, 1, 1, 0, 0}, {path, 1, 1, 401, 0}, {path, 1, 1, -1, 0},
		{label, -1, 1, 1, 0}, {label, 1, -1, 1, 0}, {label, 150, 1, 1, 0}, {label, 1, 150, 1, 0}, {label, 1, 1, 0, 0}, {label, 1, 1, 401, 0}, {label, 1, 1, -1, 0},
		{0, 1, 1, 1, 0}, {5, 1, 1, 1, 0}, {-1, 1, 1, 1, 0}, {rank, 1, 1, math.MinInt, 0}, {rank, 1, 1, math.MaxInt, 0}, {label, math.MaxInt, 1, 1, 0}, {label, 1, math.MinInt, 1, 0},
	} {
		if got := impl.FirstEdge(job(c.prog, 0), c.from, c.to, c.deg); got != c.want {
			t.Errorf("FirstEdge(program %d, %d, %d, %d) = %d, want %d", c.prog, c.from, c.to, c.deg, got, c.want)
		}
	}
}

func checkFirstEdge(t *testing.T, prog, from, to, deg int) {
	t.Helper()
	for _, src := range []int{0, from, to, -1, math.MaxInt} {
		j := job(prog, src)
		if got, want := impl.FirstEdge(j, from, to, deg), wantFirstEdge(j, from, to, deg); got != want {
			t.Errorf("FirstEdge(%+v, %d, %d, %d) = %d, want %d", j, from, to, deg, got, want)
		}
	}
}

func TestFirstEdgeOfAnyNumbers(t *testing.T) {
	ends := []int{math.MinInt, -1000, -1, 0, 1, 75, 148, 149, 150, 151, 1 << 32, math.MaxInt}
	degs := []int{math.MinInt, -400, -1, 0, 1, 2, 3, 7, 200, 399, 400, 401, 402, 1<<32 + 1, math.MaxInt}
	for _, prog := range append(notProgs, everyProg...) {
		for _, from := range ends {
			for _, to := range ends {
				for _, deg := range degs {
					checkFirstEdge(t, prog, from, to, deg)
				}
			}
		}
	}
}

func TestFirstEdgeOfEveryEdgeAndDegree(t *testing.T) {
	for _, prog := range everyProg {
		for from := -1; from <= 150; from++ {
			for to := -1; to <= 150; to++ {
				checkFirstEdge(t, prog, from, to, 1+(from+to+2)%7)
			}
		}
		for deg := -2; deg <= 403; deg++ {
			checkFirstEdge(t, prog, 17, 18, deg)
		}
	}
}

// updating is an update of the vertex 4 with known results.
type updating struct {
	what  string
	val   int
	l     []impl.View
	want  int
	edges []int
}

func checkKnownUpdates(t *testing.T, prog int, l []updating) {
	t.Helper()
	for _, c := range l {
		for _, src := range anySrc {
			if got, edges := impl.Update(job(prog, src), 4, c.val, c.l); got != c.want || !slices.Equal(edges, c.edges) {
				t.Errorf("%s, %s: Update(source %d, 4, %d, %s) = %d, %s, want %d, %s", progNames[prog], c.what, src, c.val, brief(c.l), got, brief(edges), c.want, brief(c.edges))
			}
			checkUpdate(t, progNames[prog]+", "+c.what, job(prog, src), 4, c.val, c.l, true)
		}
	}
}

func TestUpdateOfRanks(t *testing.T) {
	checkKnownUpdates(t, rank, []updating{
		{"no edges", 5, nil, 157286, nil},
		{"no edges, the greatest value before", far, views(), 157286, nil},
		{"an In edge of 0", 0, views(arrives(0)), 157286, []int{0}},
		{"17 / 20 rounded down", 0, views(arrives(1)), 157286, []int{1}},
		{"34 / 20 rounded down", 0, views(arrives(2)), 157287, []int{2}},
		{"the sum before the division", 0, views(arrives(1), arrives(1)), 157287, []int{1, 1}},
		{"323 / 20 rounded down", 0, views(arrives(19)), 157302, []int{19}},
		{"340 / 20", 0, views(arrives(20)), 157303, []int{20}},
		{"an In edge of Scale", 7, views(arrives(1048576)), 1048575, []int{1048576}},
		{"weights do not count", 7, views(weighs(1000, arrives(20)), weighs(1, leaves(20))), 157303, []int{20, 157303}},
		{"one Out edge", 0, views(leaves(9)), 157286, []int{157286}},
		{"one Out edge of the greatest value", 0, views(leaves(far)), 157286, []int{157286}},
		{"two Out edges", 0, views(leaves(9), leaves(0)), 157286, []int{78643, 78643}},
		{"three Out edges, rounded down", 0, views(leaves(9), leaves(8), leaves(7)), 157286, []int{52428, 52428, 52428}},
		{"seven Out edges, rounded down", 0, manyViews(7, leaves(1)), 157286, times(7, 22469)},
		{"as many Out edges as there can be", 0, manyViews(400, leaves(1)), 157286, times(400, 393)},
		{"In edges between Out edges", 0, views(leaves(1), arrives(20), leaves(2), arrives(40)), 157337, []int{78668, 20, 78668, 40}},
		{"a loop", 0, views(loops(1048576)), 1048575, []int{1048575}},
		{"a loop counts on both sides", 0, views(loops(20), arrives(20), leaves(99)), 157320, []int{78660, 20, 78660}},
		{"two loops and In edges", 3, views(arrives(100), loops(20), loops(40), arrives(40)), 157456, []int{100, 78728, 78728, 40}},
		{"the greatest sum", 0, views(arrives(far)), 934585040895, []int{far}},
		{"a sum below the limit", 0, views(arrives(far - 20)), 934585040878, []int{far - 20}},
		{"a sum that just reaches the limit", 0, views(arrives(far-20), arrives(20)), 934585040895, []int{far - 20, 20}},
		{"a sum beyond the limit", 0, views(arrives(far-20), arrives(40)), 934585040895, []int{far - 20, 40}},
		{"a sum of loops beyond the limit", 0, views(loops(far), loops(far)), 934585040895, []int{467292520447, 467292520447}},
		{"a sum far beyond the limit", far, manyViews(400, arrives(far)), 934585040895, times(400, far)},
	})
}

func TestUpdateOfComponents(t *testing.T) {
	checkKnownUpdates(t, conn, []updating{
		{"no edges", 9, nil, 9, nil},
		{"no edges, the greatest value", far, nil, far, nil},
		{"no edges, 0", 0, nil, 0, nil},
		{"the vertex's own number does not count", 9, views(arrives(7)), 7, []int{7}},
		{"the minimum at the vertex", 2, views(arrives(7), leaves(5), loops(6)), 2, []int{2, 2, 2}},
		{"the minimum at the first edge, which is In", 9, views(arrives(2), leaves(5), arrives(3)), 2, []int{2, 2, 2}},
		{"the minimum at the first edge, which is Out", 9, views(leaves(2), arrives(5), arrives(3)), 2, []int{2, 2, 2}},
		{"the minimum in the middle", 9, views(leaves(3), arrives(2), arrives(3)), 2, []int{2, 2, 2}},
		{"the minimum at the last edge, which is In", 9, views(leaves(3), leaves(3), arrives(2)), 2, []int{2, 2, 2}},
		{"the minimum at the last edge, which is Out", 9, views(arrives(3), arrives(4), leaves(2)), 2, []int{2, 2, 2}},
		{"the minimum at a loop", 9, views(arrives(3), loops(1), leaves(2)), 1, []int{1, 1, 1}},
		{"one loop", 4, views(loops(far)), 4, []int{4}},
		{"all equal", 3, views(arrives(3), leaves(3), loops(3)), 3, []int{3, 3, 3}},
		{"0 at the vertex", 0, views(arrives(far), leaves(far)), 0, []int{0, 0}},
		{"0 at an edge", 4, views(arrives(far), leaves(0)), 0, []int{0, 0}},
		{"nothing but the greatest value", far, views(arrives(far), leaves(far), loops(far)), far, []int{far, far, far}},
		{"weights do not count", 9, views(weighs(0, arrives(7)), weighs(1000, leaves(6)), weighs(3, loops(8))), 6, []int{6, 6, 6}},
		{"the minimum behind as many edges as there can be", far, append(manyViews(399, leaves(far)), arrives(8)), 8, times(400, 8)},
	})
}

func TestUpdateOfPaths(t *testing.T) {
	checkKnownUpdates(t, path, []updating{
		{"no edges", 9, nil, 9, nil},
		{"no edges, the greatest value", far, nil, far, nil},
		{"a shorter path", 20, views(weighs(3, arrives(7))), 10, []int{7}},
		{"a path that is as short", 10, views(weighs(3, arrives(7)), leaves(11)), 10, []int{7, 10}},
		{"a longer path", 9, views(weighs(3, arrives(7)), leaves(11)), 9, []int{7, 9}},
		{"a path without weight", 20, views(weighs(0, arrives(7))), 7, []int{7}},
		{"a path of the greatest weight", 2000, views(weighs(1000, arrives(7))), 1007, []int{7}},
		{"the first path is the shortest", 20, views(weighs(1, arrives(7)), weighs(3, arrives(7)), weighs(2, arrives(8))), 8, []int{7, 7, 8}},
		{"the last path is the shortest", 20, views(weighs(3, arrives(7)), weighs(2, arrives(8)), weighs(0, arrives(6))), 6, []int{7, 8, 6}},
		{"the shortest path is not from the nearest vertex", 20, views(weighs(10, arrives(1)), weighs(5, arrives(5))), 10, []int{1, 5}},
		{"an Out edge smaller than every In edge", 60, views(weighs(5, arrives(50)), leaves(3)), 55, []int{50, 55}},
		{"an Out edge smaller than every In edge, at first", 60, views(leaves(0), weighs(5, arrives(50)), weighs(1, arrives(58))), 55, []int{55, 50, 58}},
		{"Out edges only", 60, views(leaves(3), weighs(7, leaves(80)), leaves(0)), 60, []int{60, 60, 60}},
		{"Out edges get no weight", 9, views(weighs(1000, leaves(far)), weighs(1, leaves(far))), 9, []int{9, 9}},
		{"the source", 0, views(weighs(5, arrives(0)), leaves(far)), 0, []int{0, 0}},
		{"a loop that is shorter", 9, views(weighs(3, loops(2))), 5, []int{5}},
		{"a loop that is not", 9, views(weighs(3, loops(8))), 9, []int{9}},
		{"a loop without weight", 9, views(loops(8), leaves(7), arrives(30)), 8, []int{8, 8, 30}},
		{"a sum of Far", far, views(weighs(1, arrives(far-1)), leaves(far)), far, []int{far - 1, far}},
		{"a sum just below Far", far, views(weighs(4, arrives(far-5)), leaves(far)), far - 1, []int{far - 5, far - 1}},
		{"a sum limited to Far", far, views(weighs(1, arrives(far)), weighs(1000, arrives(far-1)), leaves(far)), far, []int{far, far - 1, far}},
		{"a sum limited to Far at a loop", far, views(weighs(1000, loops(far))), far, []int{far}},
		{"a value next to a sum limited to Far", far - 1, views(weighs(1000, arrives(far)), leaves(0)), far - 1, []int{far, far - 1}},
		{"the shortest behind as many paths as there can be", far, append(manyViews(399, weighs(1000, arrives(far))), weighs(1000, arrives(8))), 1008, append(times(399, far), 8)},
	})
}

func TestUpdateOfLabels(t *testing.T) {
	checkKnownUpdates(t, label, []updating{
		{"no labels", 77, nil, 77, nil},
		{"no labels, the greatest value", far, views(), far, nil},
		{"no labels, 0", 0, nil, 0, nil},
		{"an In edge", 4, views(arrives(7004)), 7, []int{7007}},
		{"an Out edge", 4, views(leaves(4005)), 5, []int{5005}},
		{"two of three", 4, views(arrives(7004), leaves(4005), arrives(5004)), 5, []int{7005, 5005, 5005}},
		{"three of five", 4, views(arrives(1004), leaves(4008), leaves(4001), arrives(8004), arrives(8004)), 8, []int{1008, 8008, 8001, 8008, 8008}},
		{"a tie of two", 4, views(arrives(9004), arrives(2004)), 2, []int{9002, 2002}},
		{"a tie of two, the smallest first", 4, views(arrives(2004), arrives(9004)), 2, []int{2002, 9002}},
		{"a tie of two Out edges", 4, views(leaves(4009), leaves(4002)), 2, []int{2009, 2002}},
		{"a tie of three", 4, views(arrives(9004), leaves(4006), arrives(8004)), 6, []int{9006, 6006, 8006}},
		{"a tie of three, two of each", 4, views(arrives(9004), leaves(4006), arrives(8004), leaves(4008), leaves(4009), arrives(6004)), 6, []int{9006, 6006, 8006, 6008, 6009, 6006}},
		{"a tie above a smaller label", 4, views(arrives(1004), arrives(9004), arrives(8004), arrives(9004), arrives(8004)), 8, []int{1008, 9008, 8008, 9008, 8008}},
		{"a tie with the old value, which is greater", 9, views(arrives(9009), arrives(3009)), 3, []int{9003, 3003}},
		{"a tie without the old value, which is smaller", 1, views(arrives(9001), arrives(3001)), 3, []int{9003, 3003}},
		{"the label at the vertex does not count for In edges", 4, views(arrives(7004), arrives(6004), arrives(8004)), 6, []int{7006, 6006, 8006}},
		{"the label at the vertex does not count for Out edges", 4, views(leaves(4007), leaves(4006), leaves(4008)), 6, []int{6007, 6006, 6008}},
		{"0 is a label", 4, views(arrives(4), leaves(4000), leaves(4003)), 0, []int{0, 0, 3}},
		{"999 is a label", 4, views(arrives(999004), leaves(4999)), 999, []int{999999, 999999}},
		{"a loop of two labels, the first smaller", 4, views(loops(3008)), 3, []int{3003}},
		{"a loop of two labels, the second smaller", 4, views(loops(8003)), 3, []int{3003}},
		{"a loop of one label counts twice", 4, views(loops(5005), arrives(3004)), 5, []int{5005, 3005}},
		{"a loop contributes its first label", 4, views(loops(7005), arrives(7004)), 7, []int{7007, 7007}},
		{"a loop contributes its second label", 4, views(loops(3007), leaves(4007)), 7, []int{7007, 7007}},
		{"loops only", 4, views(loops(4004), loops(4002), loops(2004)), 4, []int{4004, 4004, 4004}},
		{"loops of 0", 4, views(loops(0), loops(0)), 0, []int{0, 0}},
		{"weights do not count", 4, views(weighs(1000, arrives(9004)), weighs(0, leaves(4002)), weighs(7, arrives(2004))), 2, []int{9002, 2002, 2002}},
		{"the greatest label", 4, views(arrives(far)), 1099511627, []int{far}},
		{"the greatest value of an Out edge", 4, views(leaves(far)), 776, []int{776776}},
		{"a tie in the greatest value of a loop", 4, views(loops(far)), 776, []int{776776}},
		{"a label beyond Base at an In edge", 4, views(arrives(123456789), arrives(123456000)), 123456, []int{123579456, 123579456}},
		{"a label beyond Base at an Out edge", 4, views(arrives(123456789), arrives(123456000), leaves(4777)), 123456, []int{123579456, 123579456, 123456777}},
		{"an In edge that just reaches Far", 4, views(arrives(1099511627000), leaves(776), leaves(776)), 776, []int{far, 776776, 776776}},
		{"an In edge just below Far", 4, views(arrives(1099511627005), leaves(775), leaves(775)), 775, []int{far - 1, 775775, 775775}},
		{"an In edge limited to Far", 4, views(arrives(1099511627000), leaves(777), leaves(777)), 777, []int{far, 777777, 777777}},
		{"an Out edge that just reaches Far", 4, views(arrives(1099511627000), arrives(1099511627000), leaves(776)), 1099511627, []int{far, far, far}},
		{"an Out edge just below Far", 4, views(arrives(1099511627000), arrives(1099511627000), leaves(775)), 1099511627, []int{far, far, far - 1}},
		{"an Out edge limited to Far", 4, views(arrives(1099511627000), arrives(1099511627000), leaves(777)), 1099511627, []int{far, far, far}},
		{"a loop limited to Far", 4, views(arrives(1099511627000), loops(1099511627000)), 1099511627, []int{far, far}},
		{"a loop just below Far", 4, views(arrives(1098413214000), loops(1098413214000)), 1098413214, []int{1099511627214, 1099511627214}},
		{"a loop just limited to Far", 4, views(arrives(1098413215000), loops(1098413215000)), 1098413215, []int{far, far}},
		{"as many labels as there can be", 4, append(manyViews(200, loops(9009)), manyViews(200, loops(8008))...), 8, times(400, 8008)},
		{"one label more than as many of another", 4, slices.Concat(manyViews(199, loops(8008)), manyViews(200, loops(9009)), views(leaves(8008))), 9, append(times(399, 9009), 9008)},
	})
}

// mixedViews are m valid elements, of which the first three differ.
func mixedViews(m int) []impl.View {
	l := views(weighs(3, arrives(7004)), weighs(0, leaves(4005)), weighs(1000, loops(4004)))
	for len(l) < m {
		l = append(l, l[len(l)%3])
	}
	return l[:m]
}

var someSizes = []int{0, 1, 2, 3, 399, 400}

func TestPrograms(t *testing.T) {
	for _, m := range someSizes {
		for _, prog := range notProgs {
			checkRefusedUpdate(t, "no program", job(prog, 0), 4, 4, mixedViews(m))
		}
		for _, prog := range everyProg {
			for _, src := range anySrc {
				checkUpdate(t, "a program", job(prog, src), 4, 4, mixedViews(m), true)
			}
		}
	}
}

func TestVerticesAndValues(t *testing.T) {
	for _, prog := range everyProg {
		for _, m := range someSizes {
			j, l := job(prog, 0), mixedViews(m)
			for v := range 150 {
				checkUpdate(t, "a vertex", j, v, 4, l, true)
			}
			for _, v := range notUpTo(149) {
				checkRefusedUpdate(t, "no vertex", j, v, 4, l)
			}
			for _, val := range []int{0, 1, 4, 5, 999, 1000, 7004, 1 << 32, far - 1, far} {
				checkUpdate(t, "a value", j, 4, val, l, true)
			}
			for _, val := range notUpTo(far) {
				checkRefusedUpdate(t, "no value", j, 4, val, l)
			}
		}
	}
}

func TestNumbersOfElements(t *testing.T) {
	kinds := []func(m int) []impl.View{
		mixedViews,
		func(m int) []impl.View { return manyViews(m, weighs(1000, arrives(far))) },
		func(m int) []impl.View { return manyViews(m, weighs(1000, leaves(far))) },
		func(m int) []impl.View { return manyViews(m, weighs(1000, loops(far))) },
	}
	for _, prog := range everyProg {
		for _, make := range kinds {
			for m := range 401 {
				checkUpdate(t, "as many elements", job(prog, 0), 4, 4, make(m), true)
			}
			for _, m := range []int{401, 402, 403, 512, 656, 800, 1 << 16, 1<<16 + 3, 1 << 20} {
				checkRefusedUpdate(t, "too many elements", job(prog, 0), 4, 4, make(m))
			}
		}
	}
}

// checkElement has e at the first, at a middle, and at the last position of valid elements.
func checkElement(t *testing.T, what string, e impl.View, want bool) {
	t.Helper()
	for _, m := range []int{1, 2, 3, 400} {
		for _, at := range []int{0, m / 2, m - 1} {
			l := mixedViews(m)
			l[at] = e
			for _, prog := range everyProg {
				checkUpdate(t, what, job(prog, 0), 4, 4, l, want)
				if !want {
					checkRefusedUpdate(t, what, job(prog, 0), 4, 4, l)
				}
			}
		}
	}
}

func TestElements(t *testing.T) {
	for _, e := range views(arrives(4), leaves(4), loops(4)) {
		for _, w := range []int{0, 1, 500, 999, 1000} {
			checkElement(t, "a weight", weighs(w, e), true)
		}
		for _, w := range notUpTo(1000) {
			checkElement(t, "no weight", weighs(w, e), false)
		}
		for _, val := range []int{0, 1, 999, 1000, 1 << 32, far - 1, far} {
			e.Val = val
			checkElement(t, "a value", e, true)
			checkElement(t, "a value and the greatest weight", weighs(1000, e), true)
		}
		for _, val := range notUpTo(far) {
			e.Val = val
			checkElement(t, "no value", e, false)
			checkElement(t, "neither a value nor a weight", weighs(-1, e), false)
		}
	}
	for _, e := range views(impl.View{}, impl.View{Val: 4}, impl.View{W: 1000, Val: far}, impl.View{W: -1, Val: -1}) {
		checkElement(t, "neither In nor Out", e, false)
	}
}

func TestNothingIsValid(t *testing.T) {
	for _, prog := range notProgs {
		checkRefusedUpdate(t, "nothing valid", job(prog, -1), -1, -1, manyViews(401, impl.View{W: -1, Val: -1}))
		checkRefusedUpdate(t, "nothing valid", job(prog, 150), 150, far+1, manyViews(401, impl.View{W: 1001, Val: far + 1}))
	}
}

// viewsWith are elements of each kind with each of the weights and values.
func viewsWith(ws, vals []int) []impl.View {
	var l []impl.View
	for _, e := range views(arrives(0), leaves(0), loops(0)) {
		for _, w := range ws {
			for _, val := range vals {
				e.W, e.Val = w, val
				l = append(l, e)
			}
		}
	}
	return l
}

// everyViews calls check with every list of at most most elements of the given ones.
func everyViews(of []impl.View, most int, check func(l []impl.View)) {
	lists := [][]impl.View{nil}
	for ; most >= 0; most-- {
		var longer [][]impl.View
		for _, l := range lists {
			check(l)
			for _, e := range of {
				longer = append(longer, append(slices.Clone(l), e))
			}
		}
		lists = longer
	}
}

func TestEveryShortUpdate(t *testing.T) {
	for _, c := range []struct {
		most          int
		ws, vals, old []int
	}{
		{2, []int{0, 3, 1000}, []int{0, 1, 20, 1002, 2001, 3003, far - 1000, far - 1, far}, []int{0, 2, far}},
		{3, []int{2}, []int{0, 19, 1002, 2001, far - 1}, []int{3, far - 1}},
		{4, []int{1}, []int{5, 5006}, []int{5}},
	} {
		everyViews(viewsWith(c.ws, c.vals), c.most, func(l []impl.View) {
			for _, prog := range everyProg {
				for _, val := range c.old {
					checkUpdate(t, "a short update", job(prog, 0), 4, val, l, true)
				}
			}
		})
	}
}

// randomViews have many equal labels, and values at the limits.
func randomViews(r *rand.Rand, m int) []impl.View {
	few := 1 + r.Intn(12)
	var l []impl.View
	for range m {
		val := r.Intn(few)*1000 + r.Intn(few)
		switch r.Intn(12) {
		case 0:
			val = r.Intn(far + 1)
		case 1:
			val = far - r.Intn(2000)
		case 2:
			val = r.Intn(30)
		}
		e := views(arrives(val), leaves(val), loops(val))[r.Intn(3)]
		l = append(l, weighs(r.Intn(1001), e))
	}
	return l
}

func TestAnyUpdate(t *testing.T) {
	r := rand.New(rand.NewSource(62))
	for i := range 6000 {
		l := randomViews(r, r.Intn(12))
		if i%10 == 0 {
			l = randomViews(r, r.Intn(401))
		}
		for _, prog := range everyProg {
			checkUpdate(t, "some update", job(prog, r.Intn(150)), r.Intn(150), r.Intn(far+1)>>r.Intn(41), l, true)
		}
	}
}

// TestElementsInAnyOrder moves the elements: the value of the vertex stays, and the values of the edges move with them.
func TestElementsInAnyOrder(t *testing.T) {
	r := rand.New(rand.NewSource(63))
	for range 2000 {
		l := randomViews(r, r.Intn(30))
		order := r.Perm(len(l))
		var moved []impl.View
		for _, i := range order {
			moved = append(moved, l[i])
		}
		for _, prog := range everyProg {
			got, edges := impl.Update(job(prog, 0), 4, 4, l)
			again, movedEdges := impl.Update(job(prog, 0), 4, 4, moved)
			if got != again || len(edges) != len(l) || len(movedEdges) != len(l) {
				t.Fatalf("%s: %d and %d, with %d and %d values for %s", progNames[prog], got, again, len(edges), len(movedEdges), brief(l))
			}
			for at, i := range order {
				if movedEdges[at] != edges[i] {
					t.Errorf("%s: the values of %s are %s, and those of %s are %s", progNames[prog], brief(l), brief(edges), brief(moved), brief(movedEdges))
				}
			}
		}
	}
}

// process holds the values of a graph, of which the vertices are updated in some order.
type process struct {
	g           impl.Graph
	j           impl.Job
	out         []int
	vals, edges []int
	updated     []bool
}

func newProcess(g impl.Graph, j impl.Job) *process {
	out, _ := wantDegs(g)
	p := &process{g: g, j: j, out: out, updated: make([]bool, g.N)}
	for v := range g.N {
		p.vals = append(p.vals, impl.FirstVal(j, v))
	}
	for _, e := range g.Edges {
		p.edges = append(p.edges, impl.FirstEdge(j, e.From, e.To, out[e.From]))
	}
	return p
}

// update reports whether a value changed.
func (p *process) update(t *testing.T, v int) bool {
	t.Helper()
	var l []impl.View
	var at []int
	for i, e := range p.g.Edges {
		if e.From == v || e.To == v {
			l = append(l, impl.View{In: e.To == v, Out: e.From == v, W: e.W, Val: p.edges[i]})
			at = append(at, i)
		}
	}
	checkUpdate(t, "a process", p.j, v, p.vals[v], l, true)
	val, edges := impl.Update(p.j, v, p.vals[v], l)
	if len(edges) != len(l) {
		t.Fatalf("%d values for %d edges", len(edges), len(l))
	}
	differs := val != p.vals[v]
	p.vals[v], p.updated[v] = val, true
	for k, i := range at {
		differs = differs || p.edges[i] != edges[k]
		if (p.j.Prog == conn || p.j.Prog == path) && edges[k] > p.edges[i] {
			t.Errorf("%s of %s: the value of the edge %d increases from %d to %d", progNames[p.j.Prog], brief(p.g), i, p.edges[i], edges[k])
		}
		p.edges[i] = edges[k]
	}
	return differs
}

// wantEdge is what the edge i holds after any updates, and false if the program leaves it open.
func (p *process) wantEdge(i int) (int, bool) {
	e := p.g.Edges[i]
	switch p.j.Prog {
	case rank:
		return p.vals[e.From] / p.out[e.From], true
	case path:
		return p.vals[e.From], p.updated[e.From]
	case label:
		return 1000*p.vals[e.From] + p.vals[e.To], true
	}
	return min(p.vals[e.From], p.vals[e.To]), p.updated[e.From] && p.updated[e.To]
}

func (p *process) checkEdges(t *testing.T) {
	t.Helper()
	for i, got := range p.edges {
		if want, ok := p.wantEdge(i); ok && got != want {
			t.Errorf("%s of %s: the edge %d has the value %d, and the vertices %s", progNames[p.j.Prog], brief(p.g), i, got, brief(p.vals))
		}
	}
}

// distances are the sums of weights between all vertices, by way of more and more vertices.
func distances(g impl.Graph) [][]int {
	d := make([][]int, g.N)
	for v := range d {
		d[v] = times(g.N, far)
		d[v][v] = 0
	}
	for _, e := range g.Edges {
		d[e.From][e.To] = min(d[e.From][e.To], e.W)
	}
	for by := range g.N {
		for from := range g.N {
			for to := range g.N {
				d[from][to] = min(d[from][to], d[from][by]+d[by][to])
			}
		}
	}
	return d
}

// bothWays has the edges of g and their reverses.
func bothWays(g impl.Graph) impl.Graph {
	l := slices.Clone(g.Edges)
	for _, e := range g.Edges {
		l = append(l, edge(e.To, e.From, e.W))
	}
	return impl.Graph{N: g.N, Edges: l}
}

func wantComponents(g impl.Graph) []int {
	var l []int
	for _, row := range distances(bothWays(g)) {
		l = append(l, slices.IndexFunc(row, func(x int) bool { return x < far }))
	}
	return l
}

// checkProcess updates all vertices, in another order every time, until nothing changes any more, but not forever.
func checkProcess(t *testing.T, r *rand.Rand, p *process, rounds int) {
	t.Helper()
	p.checkEdges(t)
	for differs := true; differs && rounds > 0; rounds-- {
		differs = false
		for _, v := range r.Perm(p.g.N) {
			differs = p.update(t, v) || differs
			if len(p.edges) < 20 {
				p.checkEdges(t)
			}
		}
		p.checkEdges(t)
	}
}

// TestVerticesUpdatedInAnyOrder also checks what components and paths come to, which does not depend on the order.
func TestVerticesUpdatedInAnyOrder(t *testing.T) {
	r := rand.New(rand.NewSource(64))
	for _, size := range [][2]int{{1, 0}, {1, 3}, {2, 1}, {3, 4}, {5, 4}, {5, 9}, {8, 12}, {12, 10}, {20, 30}, {40, 35}, {40, 80}, {150, 150}, {150, 400}} {
		for range 12 {
			g := randomGraph(r, size[0], size[1])
			components := newProcess(g, job(conn, 0))
			checkProcess(t, r, components, g.N+1)
			if want := wantComponents(g); !slices.Equal(components.vals, want) {
				t.Errorf("the components of %s are %s, want %s", brief(g), brief(components.vals), brief(want))
			}
			src := r.Intn(g.N)
			paths := newProcess(g, job(path, src))
			checkProcess(t, r, paths, g.N+1)
			if want := distances(g)[src]; !slices.Equal(paths.vals, want) {
				t.Errorf("the distances from %d in %s are %s, want %s", src, brief(g), brief(paths.vals), brief(want))
			}
			checkProcess(t, r, newProcess(g, job(rank, 0)), 10)
			checkProcess(t, r, newProcess(g, job(label, 0)), 10)
		}
	}
}

func TestNoElementsAreNilOrEmpty(t *testing.T) {
	for _, prog := range append(notProgs, everyProg...) {
		for _, val := range []int{-1, 0, 5, far, far + 1} {
			got, edges := impl.Update(job(prog, 0), 4, val, nil)
			again, empty := impl.Update(job(prog, 0), 4, val, []impl.View{})
			if got != again || len(edges) != 0 || len(empty) != 0 {
				t.Errorf("program %d: Update of %d = %d, %v for nil, and %d, %v for an empty list", prog, val, got, edges, again, empty)
			}
		}
	}
}

// viewsToLend are lists of any kind, valid or not.
func viewsToLend() [][]impl.View {
	r := rand.New(rand.NewSource(65))
	l := [][]impl.View{nil, {}, views(impl.View{}), views(loops(4), impl.View{W: -1}), manyViews(401, loops(9)), views(loops(far), arrives(far), leaves(far))}
	for _, m := range []int{1, 2, 3, 7, 8, 9, 64, 399, 400} {
		l = append(l, randomViews(r, m), randomViews(r, m), mixedViews(m))
	}
	return l
}

func TestElementsStayAsTheyAre(t *testing.T) {
	for _, l := range viewsToLend() {
		room := append(slices.Clone(l), arrives(9), weighs(8, leaves(7)), impl.View{W: -6, Val: -5}, impl.View{})
		kept := slices.Clone(room)
		for _, prog := range append(notProgs, everyProg...) {
			for _, val := range []int{-1, 0, 4, far} {
				_, edges := impl.Update(job(prog, 0), 4, val, room[:len(l)])
				fillInts(edges, 81)
			}
		}
		if !slices.Equal(room, kept) {
			t.Errorf("%s became %s", brief(kept), brief(room))
		}
	}
}

// TestValuesOfEdgesAreNewMemory fills one result, and then looks at the result before it and at the one behind it.
func TestValuesOfEdgesAreNewMemory(t *testing.T) {
	for _, l := range viewsToLend() {
		for _, prog := range everyProg {
			_, before := impl.Update(job(prog, 0), 4, 4, l)
			_, filled := impl.Update(job(prog, 0), 4, 4, l)
			fillInts(filled, 82)
			_, behind := impl.Update(job(prog, 0), 4, 4, l)
			_, want := wantUpdate(job(prog, 0), 4, 4, l)
			if !slices.Equal(before, want) || !slices.Equal(behind, want) {
				t.Errorf("%s: the values of %s are %s and %s, want %s", progNames[prog], brief(l), brief(before), brief(behind), brief(want))
			}
		}
	}
}
