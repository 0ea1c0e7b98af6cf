package tests

import (
	"fmt"
	"math"
	"math/big"
	"math/rand"
	"slices"
	"strings"
	"testing"

	"loop.example/g00671/impl"
)

func graph(n int, edges ...impl.Edge) impl.Graph { return impl.Graph{N: n, Edges: edges} }

func edge(from, to, w int) impl.Edge { return impl.Edge{From: from, To: to, W: w} }

func sameGraph(a, b impl.Graph) bool { return a.N == b.N && slices.Equal(a.Edges, b.Edges) }

func within(x, most int) bool { return x >= 0 && x <= most }

func wantGraphOk(g impl.Graph) bool {
	return within(g.N, 150) && len(g.Edges) <= 400 && !slices.ContainsFunc(g.Edges, func(e impl.Edge) bool {
		return !within(e.From, g.N-1) || !within(e.To, g.N-1) || !within(e.W, 1000)
	})
}

func wantGraphText(g impl.Graph) string {
	if !wantGraphOk(g) {
		return ""
	}
	lines := []string{fmt.Sprint(g.N)}
	for _, e := range g.Edges {
		lines = append(lines, fmt.Sprint(e.From, e.To, e.W))
	}
	return strings.Join(lines, "\n") + "\n"
}

func wantDegs(g impl.Graph) (out, in []int) {
	if !wantGraphOk(g) {
		return nil, nil
	}
	for v := range g.N {
		leaves, arrives := 0, 0
		for _, e := range g.Edges {
			if e.From == v {
				leaves++
			}
			if e.To == v {
				arrives++
			}
		}
		out, in = append(out, leaves), append(in, arrives)
	}
	return out, in
}

// wantNum reads a number without the program's own functions.
func wantNum(s string) (int, bool) {
	n, ok := new(big.Int).SetString(s, 10)
	if !ok || n.String() != s || n.Sign() < 0 || n.BitLen() > 48 {
		return 0, false
	}
	return int(n.Int64()), true
}

func wantEdge(line string, n int) (impl.Edge, bool) {
	first, rest, _ := strings.Cut(line, " ")
	second, third, _ := strings.Cut(rest, " ")
	from, ok1 := wantNum(first)
	to, ok2 := wantNum(second)
	w, ok3 := wantNum(third)
	return edge(from, to, w), ok1 && ok2 && ok3 && from < n && to < n && w <= 1000
}

func wantReadGraph(text string) (impl.Graph, int) {
	if len(text) > 20000 {
		return impl.Graph{}, 2
	}
	head, rest, _ := strings.Cut(text, "\n")
	n, ok := wantNum(head)
	if !ok {
		return impl.Graph{}, 1
	}
	if n > 150 {
		return impl.Graph{}, 2
	}
	g := impl.Graph{N: n}
	for line := range strings.Lines(rest) {
		e, ok := wantEdge(strings.TrimSuffix(line, "\n"), n)
		if !ok {
			return impl.Graph{}, 1
		}
		g.Edges = append(g.Edges, e)
		if len(g.Edges) > 400 {
			return impl.Graph{}, 2
		}
	}
	return g, 0
}

// checkReadGraph compares ReadGraph with the model and with the code that the caller expects.
func checkReadGraph(t *testing.T, what string, text string, want int) {
	t.Helper()
	g, c := impl.ReadGraph(text)
	model, code := wantReadGraph(text)
	if c != want || code != want || !sameGraph(g, model) {
		t.Errorf("%s: ReadGraph(%s) = %s, %d, want %s, %d (by the model %d)", what, brief(fmt.Sprintf("%q", text)), brief(g), c, brief(model), want, code)
	}
	if c == 0 && !impl.GraphOk(g) {
		t.Errorf("%s: ReadGraph(%s) is not valid", what, brief(fmt.Sprintf("%q", text)))
	}
}

// checkGraph compares the four functions that take a graph with the model, and reads the text back.
func checkGraph(t *testing.T, what string, g impl.Graph, want bool) {
	t.Helper()
	// With a wrong answer about a great N, the degrees would fill the memory.
	if got := impl.GraphOk(g); got != want || wantGraphOk(g) != want {
		t.Fatalf("%s: GraphOk(%s) = %v, want %v", what, brief(g), got, want)
	}
	text := impl.GraphText(g)
	if text != wantGraphText(g) {
		t.Errorf("%s: GraphText(%s) = %s, want %s", what, brief(g), brief(text), brief(wantGraphText(g)))
	}
	out, in := impl.OutDegs(g), impl.InDegs(g)
	wantOut, wantIn := wantDegs(g)
	if !slices.Equal(out, wantOut) || !slices.Equal(in, wantIn) {
		t.Errorf("%s: degrees of %s: %s and %s, want %s and %s", what, brief(g), brief(out), brief(in), brief(wantOut), brief(wantIn))
	}
	if want {
		checkRecovered(t, what, g, text, out, in)
	} else if out != nil || in != nil {
		t.Errorf("%s: degrees of %s, which is not valid: %s and %s", what, brief(g), brief(out), brief(in))
	}
}

func checkRecovered(t *testing.T, what string, g impl.Graph, text string, degs ...[]int) {
	t.Helper()
	if back, c := impl.ReadGraph(text); c != 0 || !sameGraph(back, g) {
		t.Errorf("%s: %s is read back as %s, %d", what, brief(g), brief(back), c)
	}
	if back, c := impl.ReadGraph(strings.TrimSuffix(text, "\n")); c != 0 || !sameGraph(back, g) {
		t.Errorf("%s: %s without its last newline is read back as %s, %d", what, brief(g), brief(back), c)
	}
	for _, l := range degs {
		sum := 0
		for _, x := range l {
			sum += x
		}
		if len(l) != g.N || sum != len(g.Edges) {
			t.Errorf("%s: degrees %s of %s", what, brief(l), brief(g))
		}
	}
}

// randomGraph repeats some of its edges and makes loops of others.
func randomGraph(r *rand.Rand, n, m int) impl.Graph {
	g := impl.Graph{N: n}
	for len(g.Edges) < m && n > 0 {
		e := edge(r.Intn(n), r.Intn(n), r.Intn(1001))
		switch r.Intn(6) {
		case 0:
			e.To = e.From
		case 1:
			if len(g.Edges) > 0 {
				e = g.Edges[r.Intn(len(g.Edges))]
			}
		case 2:
			if len(g.Edges) > 0 {
				e = g.Edges[len(g.Edges)-1]
				e.W = r.Intn(1001)
			}
		}
		g.Edges = append(g.Edges, e)
	}
	return g
}

func sameEdges(n, m int, e impl.Edge) impl.Graph {
	return graph(n, slices.Repeat([]impl.Edge{e}, m)...)
}

func goodGraphs() []impl.Graph {
	return []impl.Graph{
		graph(0),
		{N: 0, Edges: []impl.Edge{}},
		graph(1),
		graph(150),
		graph(1, edge(0, 0, 0)),
		graph(1, edge(0, 0, 1000), edge(0, 0, 1000), edge(0, 0, 0)),
		graph(2, edge(0, 1, 1)),
		graph(2, edge(1, 0, 1)),
		graph(3, edge(0, 1, 5), edge(2, 2, 0), edge(0, 1, 7)),
		graph(3, edge(2, 0, 5), edge(1, 0, 5), edge(2, 0, 5), edge(0, 2, 999)),
		graph(150, edge(149, 149, 1000), edge(0, 149, 0), edge(149, 0, 10), edge(99, 100, 101)),
		sameEdges(1, 400, edge(0, 0, 1000)),
		sameEdges(150, 399, edge(0, 149, 1)),
		sameEdges(150, 400, edge(149, 149, 1000)),
	}
}

// greatLines is the text of a graph with one vertex and m edges.
func greatLines(m int) string { return "1\n" + strings.Repeat("0 0 1\n", m) }

func TestGraphConstants(t *testing.T) {
	got := []int{impl.MaxN, impl.MaxM, impl.MaxW, impl.MaxText}
	if !slices.Equal(got, []int{150, 400, 1000, 20000}) {
		t.Errorf("constants %v", got)
	}
}

func TestGraphsThatAreValid(t *testing.T) {
	for _, g := range goodGraphs() {
		checkGraph(t, "a valid graph", g, true)
	}
}

func TestGraphsOfEverySize(t *testing.T) {
	r := rand.New(rand.NewSource(11))
	for n := 1; n <= impl.MaxN; n++ {
		for _, m := range []int{0, 1, 2, n, r.Intn(impl.MaxM + 1), impl.MaxM - 1, impl.MaxM} {
			checkGraph(t, "every N", randomGraph(r, n, m), true)
		}
	}
	for m := range impl.MaxM + 1 {
		for _, n := range []int{1, 2, 1 + r.Intn(impl.MaxN), impl.MaxN} {
			checkGraph(t, "every number of edges", randomGraph(r, n, m), true)
		}
	}
}

func TestGraphSizesAtTheirLimits(t *testing.T) {
	ints := []int{math.MinInt, math.MinInt + 1, -1 << 32, -151, -150, -2, -1, 0, 1, 149, 150, 151, 152, 255, 256, 1 << 32, 1<<32 + 1, 1<<32 + 150, impl.MaxNum, impl.MaxNum + 1, math.MaxInt - 1, math.MaxInt}
	for _, n := range ints {
		checkGraph(t, "N alone", graph(n), within(n, 150))
		checkGraph(t, "N and an edge", graph(n, edge(0, 0, 1)), within(n-1, 149))
		checkGraph(t, "N and a negative edge", graph(n, edge(-1, -1, 1)), false)
		checkGraph(t, "N and its last vertex", graph(n, edge(n-1, n-1, 1)), within(n-1, 149))
		checkGraph(t, "N and one vertex more", graph(n, edge(n, n, 1)), false)
	}
	for m, want := range map[int]bool{0: true, 1: true, 399: true, 400: true, 401: false, 402: false, 800: false, 4000: false} {
		for _, n := range []int{1, 2, 75, 150} {
			checkGraph(t, "the number of edges", sameEdges(n, m, edge(n-1, 0, 9)), want)
		}
		checkGraph(t, "the number of edges without vertices", sameEdges(0, m, edge(0, 0, 0)), m == 0)
	}
}

func TestEdgesAtTheirLimits(t *testing.T) {
	beside := []int{math.MinInt, math.MinInt + 1, -1 << 32, -2, -1, 0, 1, 2, 3, 4, 5, 148, 149, 150, 151, 999, 1000, 1001, 1002, 1 << 32, 1<<32 + 1, math.MaxInt - 1, math.MaxInt}
	for _, n := range []int{1, 2, 4, 149, 150} {
		for _, at := range []int{0, 1, 2, 199, 398, 399} {
			for _, x := range beside {
				g := sameEdges(n, min(400, max(3, at+2)), edge(0, n-1, 1000))
				g.Edges[at].From = x
				checkGraph(t, "From", g, within(x, n-1))
				g.Edges[at] = edge(0, x, 1)
				checkGraph(t, "To", g, within(x, n-1))
				g.Edges[at] = edge(n-1, n-1, x)
				checkGraph(t, "W", g, within(x, 1000))
			}
		}
	}
}

func TestGraphTextKnown(t *testing.T) {
	for _, c := range []struct {
		g       impl.Graph
		want    string
		out, in []int
	}{
		{graph(0), "0\n", nil, nil},
		{graph(2), "2\n", []int{0, 0}, []int{0, 0}},
		{graph(1, edge(0, 0, 0)), "1\n0 0 0\n", []int{1}, []int{1}},
		{graph(3, edge(0, 1, 5), edge(2, 2, 0), edge(0, 1, 7)), "3\n0 1 5\n2 2 0\n0 1 7\n", []int{2, 0, 1}, []int{0, 2, 1}},
		{graph(4, edge(3, 0, 1000), edge(3, 1, 10), edge(3, 0, 1000)), "4\n3 0 1000\n3 1 10\n3 0 1000\n", []int{0, 0, 0, 3}, []int{2, 1, 0, 0}},
	} {
		if text := impl.GraphText(c.g); text != c.want {
			t.Errorf("GraphText(%s) = %q, want %q", brief(c.g), text, c.want)
		}
		if g, code := impl.ReadGraph(c.want); code != 0 || !sameGraph(g, c.g) {
			t.Errorf("ReadGraph(%q) = %s, %d", c.want, brief(g), code)
		}
		if out, in := impl.OutDegs(c.g), impl.InDegs(c.g); !slices.Equal(out, c.out) || !slices.Equal(in, c.in) {
			t.Errorf("degrees of %s: %v and %v, want %v and %v", brief(c.g), out, in, c.out, c.in)
		}
	}
}

func TestReadGraphLines(t *testing.T) {
	for _, c := range []struct {
		text string
		want int
	}{
		{"", 1}, {"\n", 1}, {"\n\n", 1}, {"\n2\n0 1 5\n", 1}, {"\n2", 1}, {" ", 1}, {" \n", 1},
		{"2", 0}, {"2\n", 0}, {"0", 0}, {"0\n", 0}, {"2\n\n", 1}, {"2\n\n\n", 1}, {"0\n\n", 1}, {"2\n ", 1}, {"2\n \n", 1},
		{"2\n0 1 5", 0}, {"2\n0 1 5\n", 0}, {"2\n0 1 5\n\n", 1}, {"2\n0 1 5\n\n0 1 5\n", 1}, {"2\n\n0 1 5\n", 1}, {"2\n0 1 5\n ", 1},
		{"2\n0 1 5\n1 0 5", 0}, {"2\n0 1 5\n1 0 5\n", 0}, {"2\n0 1 5 1 0 5\n", 1}, {"2 0 1 5\n", 1}, {"20 1 5\n", 1},
		{"2\n0  1 5\n", 1}, {"2\n0 1  5\n", 1}, {"2\n 0 1 5\n", 1}, {"2\n0 1 5 \n", 1}, {"2\n0 1 5 ", 1}, {"2\n0 15\n", 1}, {"2\n  0 1 5\n", 1},
		{"2\n0 1\n", 1}, {"2\n0\n", 1}, {"2\n0 1 \n", 1}, {"2\n0 \n", 1}, {"2\n  \n", 1}, {"2\n0 1 5 0\n", 1}, {"2\n0 1 5 0 1\n", 1}, {"2\n0 0\n1 1\n", 1},
		{"2\r\n0 1 5\r\n", 1}, {"2\n0 1 5\r\n", 1}, {"2\r0 1 5\r", 1}, {"2\n0 1 5\r", 1}, {"2\r\n", 1}, {"2\r", 1}, {"2\n\r\n", 1}, {"\r", 1}, {"2\n0\r1\r5\n", 1},
		{"2\n0\t1\t5\n", 1}, {"2\t\n", 1}, {"2\n0\u00a01\u00a05\n", 1}, {"2\v\n", 1}, {"2\x00\n", 1}, {"2\n0 1 5\x00\n", 1}, {"\ufeff2\n", 1}, {"2\u0085", 1}, {"2\n0 1 5\u2028", 1},
		{"2\n+0 1 5\n", 1}, {"2\n0 +1 5\n", 1}, {"2\n0 1 +5\n", 1}, {"2\n-0 1 5\n", 1}, {"2\n0 -1 5\n", 1}, {"2\n0 1 -5\n", 1}, {"2\n-1 1 5\n", 1},
		{"2\n00 1 5\n", 1}, {"2\n0 01 5\n", 1}, {"2\n0 1 05\n", 1}, {"2\n0 1 00\n", 1}, {"2\n0 1 0\n", 0}, {"2\n0 0 0\n", 0},
		{"2\na 1 5\n", 1}, {"2\n0 b 5\n", 1}, {"2\n0 1 c\n", 1}, {"2\n0 1 5c\n", 1}, {"2\n0x0 1 5\n", 1}, {"2\n0 1 1e1\n", 1}, {"2\n0 1 1_0\n", 1}, {"2\n0 1 5.\n", 1}, {"2\n0,1,5\n", 1}, {"2\n0 \uff11 5\n", 1},
		{"2\n#\n", 1}, {"#\n2\n", 1}, {"2\n0 1 5\n#", 1},
	} {
		checkReadGraph(t, "lines", c.text, c.want)
	}
}

func TestReadGraphFirstLine(t *testing.T) {
	for line, want := range map[string]int{
		"0": 0, "1": 0, "9": 0, "10": 0, "149": 0, "150": 0,
		"151": 2, "152": 2, "200": 2, "256": 2, "1000": 2, "4294967296": 2, "4294967297": 2, "281474976710654": 2, "281474976710655": 2,
		"281474976710656": 1, "281474976710657": 1, "999999999999999": 1, "9223372036854775807": 1, "9223372036854775808": 1,
		"18446744073709551616": 1, "18446744073709551617": 1, strings.Repeat("9", 400): 1, strings.Repeat("0", 400): 1,
		"00": 1, "01": 1, "0150": 1, "0151": 1, "-0": 1, "-1": 1, "-150": 1, "-151": 1, "+0": 1, "+1": 1, "+151": 1,
		"x": 1, "1x": 1, "x1": 1, "151x": 1, "0x1": 1, "1e2": 1, "1.0": 1, "1_0": 1, "n": 1, "-": 1, "+": 1,
		" 1": 1, "1 ": 1, "1 1": 1, " 151": 1, "151 ": 1, "151 0": 1, "1\r": 1, "151\r": 1, "0 0 0": 1, "151 0 0": 1, "\t1": 1, "\xff": 1, "\u0661": 1,
	} {
		checkReadGraph(t, "a first line", line, want)
		checkReadGraph(t, "a first line", line+"\n", want)
		edges := want
		if line == "0" {
			edges = 1
		}
		checkReadGraph(t, "a first line and an edge", line+"\n0 0 7\n", edges)
		checkReadGraph(t, "a first line behind an empty one", "\n"+line+"\n", 1)
	}
}

func TestReadGraphEdgesAtTheirLimits(t *testing.T) {
	texts := []string{"-1", "0", "1", "2", "3", "4", "148", "149", "150", "151", "999", "1000", "1001", "1002", "4294967296", "4294967297", "281474976710655", "281474976710656", "9223372036854775807", "9223372036854775808", "18446744073709551616"}
	for _, n := range []int{0, 1, 2, 3, 149, 150} {
		for _, s := range texts {
			x, ok := wantNum(s)
			end, weight := 1, 1
			if ok && x < n {
				end = 0
			}
			if ok && x <= 1000 && n > 0 {
				weight = 0
			}
			for _, before := range []string{"", strings.Repeat("0 0 3\n", 2), strings.Repeat("0 0 3\n", 399)} {
				if n == 0 {
					before = ""
				}
				head := fmt.Sprintf("%d\n%s", n, before)
				checkReadGraph(t, "From", fmt.Sprintf("%s%s 0 1\n", head, s), end)
				checkReadGraph(t, "To", fmt.Sprintf("%s0 %s 1", head, s), end)
				checkReadGraph(t, "W", fmt.Sprintf("%s0 0 %s\n", head, s), weight)
			}
		}
	}
}

func TestReadGraphOneEdgeMore(t *testing.T) {
	for m, want := range map[int]int{0: 0, 1: 0, 399: 0, 400: 0, 401: 2, 402: 2, 3000: 2} {
		checkReadGraph(t, fmt.Sprint(m, " edges"), greatLines(m), want)
		checkReadGraph(t, fmt.Sprint(m, " edges"), strings.TrimSuffix(greatLines(m), "\n"), want)
	}
	for _, line := range []string{"", " ", "x", "0 0", "0 0 1 0", "0 0  1", " 0 0 1", "0 0 1 ", "0 0 1\r", "1 0 1", "0 1 1", "0 0 1001", "00 0 1", "+0 0 1", "-1 0 1", "0", "1", "151", "281474976710656"} {
		checkReadGraph(t, "edge 401 is malformed", greatLines(400)+line+"\n", 1)
		checkReadGraph(t, "edge 400 is malformed, edge 401 is not", greatLines(399)+line+"\n0 0 1\n0 0 1\n", 1)
		checkReadGraph(t, "edge 402 is malformed", greatLines(401)+line+"\n", 2)
		checkReadGraph(t, "edge 401 is malformed, edge 402 is not", greatLines(400)+line+"\n0 0 1\n", 1)
	}
	checkReadGraph(t, "edge 401 is an x", greatLines(400)+"x", 1)
	checkReadGraph(t, "edge 401 is one", greatLines(400)+"0 0 0", 2)
}

func TestReadGraphFirstErroneousLineCounts(t *testing.T) {
	many := strings.Repeat("0 0 1\n", 401)
	for _, c := range []struct {
		what, text string
		want       int
	}{
		{"N too great, then a letter", "151\nx\n", 2},
		{"N too great, then an end too great", "151\n151 0 1\n", 2},
		{"N too great, then too many edges", "151\n" + many, 2},
		{"N too great, then an empty line", "151\n\n", 2},
		{"no number, then too many edges", "x\n" + many, 1},
		{"an empty line, then too many edges", "\n" + many, 1},
		{"an empty line, then N too great", "\n151\n", 1},
		{"N above MaxNum, then too many edges", "281474976710656\n" + many, 1},
		{"a letter in the first edge, then too many edges", "1\nx\n" + many, 1},
		{"a letter in an edge between, then too many edges", greatLines(200) + "0 x 1\n" + many, 1},
		{"W too great in edge 400, then too many edges", greatLines(399) + "0 0 1001\n" + many, 1},
		{"too many edges, then a letter", "1\n" + many + "x\n", 2},
		{"too many edges, then W too great", "1\n" + many + "0 0 1001\n", 2},
		{"too many edges, then an empty line", "1\n" + many + "\n", 2},
		{"no vertices, then many edges", "0\n" + many, 1},
	} {
		checkReadGraph(t, c.what, c.text, c.want)
	}
}

func TestReadGraphLongTexts(t *testing.T) {
	for what, c := range map[string]struct {
		start, more string
		want        int
	}{
		"newlines":               {"", "\n", 1},
		"one long line":          {"", "1", 1},
		"spaces":                 {"", " ", 1},
		"a letter first":         {"x\n", "0 0 1\n", 1},
		"N and newlines":         {"1\n", "\n", 1},
		"N and spaces":           {"1\n", " ", 1},
		"N and zeros":            {"1\n", "0", 1},
		"N and edges":            {"1\n", "0 0 1\n", 2},
		"N too great":            {"151\n", "0 0 1\n", 2},
		"edges and newlines":     {greatLines(400), "\n", 1},
		"edges, one more, x":     {greatLines(401), "x", 2},
		"edges and a long line":  {greatLines(399) + "0 0 1 ", "0 ", 1},
		"edges and a long digit": {greatLines(400) + "0 0 1", "0", 1},
		"bytes above 127":        {"1\n", "\u20ac", 1},
	} {
		long := c.start + strings.Repeat(c.more, 50000)
		for _, size := range []int{19998, 19999, 20000} {
			checkReadGraph(t, what, long[:size], c.want)
		}
		for _, size := range []int{20001, 20002, 40000, len(long)} {
			checkReadGraph(t, what, long[:size], 2)
		}
	}
}

func TestReadGraphWithAnyByteChanged(t *testing.T) {
	text := "12\n0 1 5\n10 11 1000\n3 3 0\n"
	for at := range len(text) + 1 {
		for x := range 256 {
			added := text[:at] + string([]byte{byte(x)}) + text[at:]
			_, want := wantReadGraph(added)
			checkReadGraph(t, "a byte added", added, want)
			if at == len(text) {
				continue
			}
			changed := text[:at] + string([]byte{byte(x)}) + text[at+1:]
			_, want = wantReadGraph(changed)
			checkReadGraph(t, "a byte changed", changed, want)
		}
		_, want := wantReadGraph(text[:at])
		checkReadGraph(t, "a text that is cut", text[:at], want)
		_, want = wantReadGraph(text[:at] + text[min(at+1, len(text)):])
		checkReadGraph(t, "a byte left out", text[:at]+text[min(at+1, len(text)):], want)
	}
}

var scraps = []string{"", "0", "1", "00", "150", "151", "1000", "1001", "-1", "+1", "x", " ", "  ", "\n", "\n\n", "\r", "\r\n", "0 0 1\n", "0 0 1001\n", "281474976710655", "281474976710656"}

func TestReadGraphOfAnyText(t *testing.T) {
	r := rand.New(rand.NewSource(12))
	codes := map[int]int{}
	for range 20000 {
		n := r.Intn(4)
		text := wantGraphText(randomGraph(r, n, r.Intn(5)))
		if r.Intn(10) == 0 {
			text = wantGraphText(randomGraph(r, 1+r.Intn(150), 396+r.Intn(5)))
		}
		for range r.Intn(4) {
			at := r.Intn(len(text) + 1)
			end := min(len(text), at+r.Intn(2)*r.Intn(8))
			text = text[:at] + scraps[r.Intn(len(scraps))] + text[end:]
		}
		if r.Intn(4) == 0 {
			text += strings.Repeat("0 0 1\n", r.Intn(6))
		}
		_, want := wantReadGraph(text)
		checkReadGraph(t, "any text", text, want)
		codes[want]++
	}
	for c := range 3 {
		if codes[c] < 100 {
			t.Errorf("the code %d occurred %d times", c, codes[c])
		}
	}
}

func TestGraphOkOfAnyGraph(t *testing.T) {
	r := rand.New(rand.NewSource(13))
	oks := map[bool]int{}
	for range 5000 {
		g := randomGraph(r, r.Intn(6), r.Intn(9))
		for range r.Intn(3) {
			x := []int{-1, 0, 1, g.N - 1, g.N, g.N + 1, 150, 151, 1000, 1001, math.MinInt, math.MaxInt}[r.Intn(12)]
			switch field := r.Intn(8); {
			case field == 0:
				g.N = x
			case len(g.Edges) == 0:
			case field < 3:
				g.Edges[r.Intn(len(g.Edges))].From = x
			case field < 5:
				g.Edges[r.Intn(len(g.Edges))].To = x
			default:
				g.Edges[r.Intn(len(g.Edges))].W = x
			}
		}
		want := wantGraphOk(g)
		checkGraph(t, "any graph", g, want)
		oks[want]++
	}
	if oks[true] < 500 || oks[false] < 500 {
		t.Errorf("valid or not: %v", oks)
	}
}

func fillInts(l []int, x int) {
	l = l[:cap(l)]
	for i := range l {
		l[i] = x
	}
}

func TestGraphArgumentsStayAsTheyAre(t *testing.T) {
	bad := []impl.Graph{graph(-1, edge(0, 0, 1)), graph(151), graph(2, edge(0, 1, 5), edge(2, 0, 5)), sameEdges(3, 401, edge(1, 2, 3))}
	for _, g := range append(goodGraphs(), bad...) {
		room := append(slices.Clone(g.Edges), edge(7, 8, 9), edge(-1, -2, -3), edge(0, 0, 0))
		kept := slices.Clone(room)
		lent := impl.Graph{N: g.N, Edges: room[:len(g.Edges)]}
		impl.GraphOk(lent)
		impl.GraphText(lent)
		out, in := impl.OutDegs(lent), impl.InDegs(lent)
		fillInts(out, 77)
		fillInts(in, 88)
		if lent.N != g.N || !slices.Equal(room, kept) {
			t.Errorf("%s is changed by the functions that take it", brief(g))
		}
	}
}

func TestDegreesAreNewMemory(t *testing.T) {
	for _, g := range goodGraphs() {
		wantOut, wantIn := wantDegs(g)
		lists := [][]int{impl.OutDegs(g), impl.InDegs(g), impl.OutDegs(g), impl.InDegs(g)}
		for i := range lists {
			if want := [][]int{wantOut, wantIn}[i%2]; !slices.Equal(lists[i], want) {
				t.Errorf("list %d of %s was changed through another", i, brief(g))
			}
			fillInts(lists[i], -7)
		}
	}
}

func TestReadGraphsAreNewMemory(t *testing.T) {
	for _, g := range goodGraphs() {
		text := wantGraphText(g)
		first, _ := impl.ReadGraph(text)
		second, _ := impl.ReadGraph(text)
		all := first.Edges[:cap(first.Edges)]
		for i := range all {
			all[i] = edge(-1, -2, -3)
		}
		third, c := impl.ReadGraph(text)
		if !sameGraph(second, g) || c != 0 || !sameGraph(third, g) {
			t.Errorf("%s: what is read shares memory or is kept", brief(g))
		}
	}
}
