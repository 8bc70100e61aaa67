package tests

import (
	"fmt"
	"math"
	"slices"
	"testing"

	"loop.example/s02126/impl"
)

func TestConstantsOfGraphs(t *testing.T) {
	if impl.MaxEdges != 6400 {
		t.Errorf("%d", impl.MaxEdges)
	}
}

// graphIs wants ValidGraph to answer so, the functions that take a graph to refuse one that is not valid, and none of
// them to write into it.
func graphIs(t *testing.T, what string, g impl.Graph, want bool) {
	t.Helper()
	if wantValidGraph(g) != want {
		t.Errorf("%s: the test has it wrong: %s", what, graphText(g))
	}
	before := copyGraph(g)
	if got := impl.ValidGraph(g); got != want {
		t.Errorf("ValidGraph(%s): %v, not %v", what, got, want)
	}
	code := impl.CodeBad
	if want {
		code = impl.CodeOK
	}
	if back, got := impl.Reverse(g); got != code || !want && !sameGraph(back, impl.Graph{}) {
		t.Errorf("Reverse(%s): %v, %d", what, back, got)
	}
	for _, from := range [][]int{nil, {}, {0}} {
		if in, got := impl.Reach(g, from); got != code || !want && len(in) != 0 {
			t.Errorf("Reach(%s, %v): %v, %d", what, from, in, got)
		}
	}
	if least, got := impl.Components(g); got != code || !want && len(least) != 0 {
		t.Errorf("Components(%s): %v, %d", what, least, got)
	}
	if dist, hop, got := impl.Route(g, 0); got != code || !want && len(dist)+len(hop) != 0 {
		t.Errorf("Route(%s, 0): %v, %v, %d", what, dist, hop, got)
	}
	if !sameGraph(g, before) {
		t.Errorf("%s is written into", what)
	}
}

func graphGood(t *testing.T, what string, g impl.Graph) {
	t.Helper()
	graphIs(t, what, g, true)
}

func graphBad(t *testing.T, what string, g impl.Graph) {
	t.Helper()
	graphIs(t, what, g, false)
}

// manyEdges has its edges spread over its cells as evenly as can be.
func manyEdges(cells, edges int) impl.Graph {
	var links []link
	for i := range edges {
		links = append(links, link{i % cells, i * 7 % cells, i % 4, 1 + i%9})
	}
	return graphWith(cells, links...)
}

var extremes = []int{-1, math.MinInt, math.MinInt + 1, math.MaxInt, math.MaxInt - 1, 1 << 31, -1 << 31, 1 << 32, 1 << 62, -1 << 62}

func TestValidGraphCells(t *testing.T) {
	for _, n := range []int{1, 2, 3, 40, 41, 1599, 1600} {
		graphGood(t, fmt.Sprint(n, " cells"), graphWith(n))
		graphGood(t, fmt.Sprint(n, " cells in a circle"), graphWith(n, inCircle(span(0, n-1)...)...))
	}
	for _, n := range []int{1601, 1602, 3200, 6400} {
		graphBad(t, fmt.Sprint(n, " cells"), graphWith(n))
	}
	for _, n := range append([]int{0, 1601}, extremes...) {
		for _, start := range [][]int{nil, {}, {0}, {0, 0}, {0, 1}, make([]int, 1601), make([]int, 1602)} {
			g := impl.Graph{N: n, Start: start}
			graphBad(t, fmt.Sprint("N of ", n, " with ", len(start), " in Start"), g)
			g.To, g.Dir, g.Cost = []int{0}, []int{0}, []int{1}
			graphBad(t, fmt.Sprint("N of ", n, " with an edge, ", len(start), " in Start"), g)
		}
	}
	graphBad(t, "the zero graph", impl.Graph{})
}

func TestValidGraphLengthOfStart(t *testing.T) {
	for _, n := range []int{1, 2, 5, 1600} {
		for _, edges := range []int{0, 1, 7} {
			g := manyEdges(n, edges)
			what := fmt.Sprint(n, " cells, ", edges, " edges")
			graphGood(t, what, g)
			for _, start := range [][]int{nil, {}, {0}, {edges}, g.Start[:n], g.Start[1:], append(slices.Clone(g.Start), edges), append([]int{0}, g.Start...), append(slices.Clone(g.Start), 0)} {
				x := g
				x.Start = start
				graphIs(t, fmt.Sprint(what, ", Start of ", len(start)), x, false)
			}
			for _, other := range []int{n - 1, n + 1} {
				x := g
				x.N = other
				graphBad(t, fmt.Sprint(what, " but N of ", other), x)
			}
		}
	}
}

// One element of Start is changed, at each place, to each number.
func TestValidGraphElementsOfStart(t *testing.T) {
	refused := 0
	for _, g := range []impl.Graph{manyEdges(1, 0), manyEdges(1, 4), manyEdges(2, 0), manyEdges(2, 3), manyEdges(5, 12), graphFrom(t, 5, "0>0, 0>1, 3>4, 3>4, 3>0"), graphFrom(t, 4, "1>2, 2>1"), graphFrom(t, 4, "3>3")} {
		for at := range g.Start {
			for _, n := range append(span(-2, len(g.To)+2), extremes...) {
				x := copyGraph(g)
				x.Start[at] = n
				if !wantValidGraph(x) {
					refused++
				}
				graphIs(t, graphText(x), x, wantValidGraph(x))
			}
		}
	}
	if refused < 300 {
		t.Errorf("only %d are not valid", refused)
	}
	g := manyEdges(1600, 6400)
	for _, at := range []int{1, 2, 800, 1598, 1599} {
		x := copyGraph(g)
		x.Start[at] = x.Start[at-1]
		graphGood(t, fmt.Sprint("cell ", at-1, " without edges"), x)
		x.Start[at] = x.Start[at-1] - 1
		graphBad(t, fmt.Sprint("Start is less at ", at), x)
		x.Start[at] = x.Start[at+1]
		graphGood(t, fmt.Sprint("cell ", at, " without edges"), x)
		x.Start[at] = x.Start[at+1] + 1
		graphBad(t, fmt.Sprint("Start is greater at ", at), x)
	}
}

// All short lists of small numbers as Start, over all lengths of the other lists.
func TestValidGraphOfAllSmallGraphs(t *testing.T) {
	valid := 0
	var fill func(start []int)
	fill = func(start []int) {
		for n := range 4 {
			for lengths := range 64 {
				to, dir, cost := lengths%4, lengths/4%4, lengths/16
				g := impl.Graph{N: n, Start: start, To: make([]int, to), Dir: make([]int, dir), Cost: slices.Repeat([]int{1}, cost)}
				if wantValidGraph(g) {
					valid++
				}
				graphIs(t, graphText(g), g, wantValidGraph(g))
			}
		}
		if len(start) < 4 && !t.Failed() {
			for n := range 5 {
				fill(append(slices.Clone(start), n-1))
			}
		}
	}
	fill(nil)
	// For one, two and three cells, so many rows go up from 0 to 0, 1, 2 and 3.
	if valid != 4+(1+2+3+4)+(1+3+6+10) {
		t.Errorf("%d of them are valid", valid)
	}
}

func TestValidGraphLengthsOfEdges(t *testing.T) {
	for _, g := range []impl.Graph{graphWith(3), graphFrom(t, 3, "1>2"), manyEdges(3, 8), manyEdges(1600, 6400), manyEdges(1, 6400)} {
		graphGood(t, graphText(g), g)
		for field := range 3 {
			for _, by := range []int{-1, 1, 2} {
				x := copyGraph(g)
				list := []*[]int{&x.To, &x.Dir, &x.Cost}[field]
				if len(*list)+by < 0 {
					continue
				}
				*list = append(*list, 1, 1)[:len(g.To)+by]
				graphBad(t, fmt.Sprint(graphText(g), ", list ", field, " by ", by), x)
			}
			x := copyGraph(g)
			*[]*[]int{&x.To, &x.Dir, &x.Cost}[field] = nil
			graphIs(t, fmt.Sprint(graphText(g), " without list ", field), x, len(g.To) == 0)
		}
		x := copyGraph(g)
		x.To, x.Dir, x.Cost = append(x.To, 0), append(x.Dir, 0), append(x.Cost, 1)
		graphBad(t, graphText(g)+" with an edge of no cell", x)
	}
}

func TestValidGraphMostEdges(t *testing.T) {
	for _, n := range []int{1, 2, 3, 40, 1599, 1600} {
		for _, edges := range []int{6398, 6399, 6400} {
			graphGood(t, fmt.Sprint(n, " cells, ", edges, " edges"), manyEdges(n, edges))
		}
		for _, edges := range []int{6401, 6402, 12800} {
			graphBad(t, fmt.Sprint(n, " cells, ", edges, " edges"), manyEdges(n, edges))
		}
	}
}

// Each field of each edge, at its bounds and beyond them.
func TestValidGraphFieldsOfEdges(t *testing.T) {
	for _, g := range []impl.Graph{manyEdges(1, 1), manyEdges(2, 1), manyEdges(3, 5), manyEdges(7, 20), graphFrom(t, 9, "8>8, 8>0, 4>4"), manyEdges(1600, 6400), manyEdges(12, 6400)} {
		places := span(0, len(g.To)-1)
		if len(places) > 20 {
			places = []int{0, 1, 3200, 6398, 6399}
		}
		for _, at := range places {
			for _, n := range append([]int{-2, -1, 0, 1, 2, 3, 4, 5, 8, 9, 10, 11, g.N - 2, g.N - 1, g.N, g.N + 1, 1599, 1600}, extremes...) {
				x := copyGraph(g)
				x.To[at] = n
				graphIs(t, fmt.Sprint(graphText(g), ", To ", at, " is ", n), x, 0 <= n && n <= g.N-1)
				x = copyGraph(g)
				x.Dir[at] = n
				graphIs(t, fmt.Sprint(graphText(g), ", Dir ", at, " is ", n), x, 0 <= n && n <= 3)
				x = copyGraph(g)
				x.Cost[at] = n
				graphIs(t, fmt.Sprint(graphText(g), ", Cost ", at, " is ", n), x, 1 <= n && n <= 9)
			}
		}
	}
}

func TestValidGraphOddEdges(t *testing.T) {
	for _, text := range []string{"", "0>0", "0>0, 0>0, 0>0", "0>1, 0>1, 0>1", "0>1 east 1, 0>1 east 1", "0>1 north 9, 0>1 west 1, 1>0 north 9", "2>0, 2>1, 2>2", "1>1 south 5, 0>0 south 5, 2>2 south 5", "0>2 west 1, 0>1 north 1"} {
		graphGood(t, text, graphFrom(t, 3, text))
	}
	for _, empty := range [][]int{nil, {}} {
		graphGood(t, "no edges", impl.Graph{N: 1, Start: []int{0, 0}, To: empty, Dir: empty, Cost: empty})
		graphBad(t, "no Start", impl.Graph{N: 1, Start: empty})
	}
}

// spoilGraph changes one thing of a graph.
func (w surveyor) spoilGraph(g *impl.Graph) {
	lists := []*[]int{&g.Start, &g.To, &g.Dir, &g.Cost}
	list := pick(w.r, lists...)
	n := pick(w.r, -1, 0, 1, 2, 3, 4, 5, 9, 10, g.N-1, g.N, g.N+1, len(g.To), len(g.To)+1)
	switch w.r.Intn(6) {
	case 0:
		g.N = n
	case 1:
		*list = append(*list, n)
	case 2:
		if len(*list) > 0 {
			*list = (*list)[:len(*list)-1]
		}
	default:
		if len(*list) > 0 {
			(*list)[w.r.Intn(len(*list))] = n
		}
	}
}

func TestValidGraphOfChangedGraphs(t *testing.T) {
	refused := 0
	for seed := range int64(4000) {
		w := newSurveyor(120000 + seed)
		g := w.graph(8, 14)
		graphGood(t, graphText(g), g)
		for range 6 {
			x := copyGraph(g)
			w.spoilGraph(&x)
			if !wantValidGraph(x) {
				refused++
			}
			graphIs(t, graphText(x), x, wantValidGraph(x))
		}
		if t.Failed() {
			return
		}
	}
	if refused < 8000 || refused > 22000 {
		t.Errorf("%d changed graphs are not valid: too few of one sort", refused)
	}
}
