package tests

import (
	"fmt"
	"slices"
	"testing"

	"loop.example/s02126/impl"
)

// reachOf answers Reach of a valid graph and cells of it, which it wants to be as the document has it.
func reachOf(t *testing.T, g impl.Graph, from []int) []bool {
	t.Helper()
	before, fromBefore := copyGraph(g), slices.Clone(from)
	got, code := impl.Reach(g, from)
	if want := wantReach(g, from); code != impl.CodeOK || !slices.Equal(got, want) {
		t.Errorf("Reach(%s, %v): %v, %d, not %v", graphText(g), from, got, code, want)
		return make([]bool, g.N)
	}
	if !sameGraph(g, before) || !slices.Equal(from, fromBefore) {
		t.Errorf("Reach(%s, %v) writes into what it is given", graphText(before), fromBefore)
	}
	isClosed(t, g, from, got)
	return got
}

// isClosed wants each edge from a cell that is reached to lead to one, and each that is reached to be given, or to have
// an edge from another one.
func isClosed(t *testing.T, g impl.Graph, from []int, in []bool) {
	t.Helper()
	entered := make([]bool, g.N)
	for _, x := range linksOf(g) {
		if in[x.from] && !in[x.to] {
			t.Errorf("Reach(%s, %v) is not closed under %v", graphText(g), from, x)
		}
		if in[x.from] && x.from != x.to {
			entered[x.to] = true
		}
	}
	for _, cell := range from {
		entered[cell] = true
	}
	for cell := range in {
		if in[cell] && !entered[cell] {
			t.Errorf("Reach(%s, %v) needs no cell %d", graphText(g), from, cell)
		}
	}
}

// reachAs names the cells that are reached.
func reachAs(t *testing.T, n int, text string, from, want []int) {
	t.Helper()
	if got := reachOf(t, graphFrom(t, n, text), from); !slices.Equal(cellsIn(got), want) {
		t.Errorf("%s from %v: %v, not %v", text, from, cellsIn(got), want)
	}
}

func cellsIn(in []bool) []int {
	var cells []int
	for cell, is := range in {
		if is {
			cells = append(cells, cell)
		}
	}
	return cells
}

func TestReachCases(t *testing.T) {
	reachAs(t, 1, "", nil, nil)
	reachAs(t, 1, "", []int{}, nil)
	reachAs(t, 1, "", []int{0}, []int{0})
	reachAs(t, 1, "0>0", nil, nil)
	reachAs(t, 1, "0>0, 0>0", []int{0}, []int{0})
	reachAs(t, 3, "", []int{1}, []int{1})
	reachAs(t, 3, "1>1", []int{0}, []int{0})
	reachAs(t, 3, "0>1, 1>2", []int{0}, []int{0, 1, 2})
	reachAs(t, 3, "0>1, 1>2", []int{1}, []int{1, 2})
	reachAs(t, 3, "0>1, 1>2", []int{2}, []int{2})
	reachAs(t, 3, "2>1, 1>0", []int{2}, []int{0, 1, 2})
	reachAs(t, 3, "2>1, 1>0", []int{0}, []int{0})
	reachAs(t, 3, "0>1, 1>2, 2>0", []int{1}, []int{0, 1, 2})
	reachAs(t, 3, "0>1, 1>2, 2>0", nil, nil)
	reachAs(t, 5, "0>1, 1>0, 2>3, 3>2", []int{3}, []int{2, 3})
	reachAs(t, 5, "0>1, 1>0, 2>3, 3>2", []int{3, 0}, []int{0, 1, 2, 3})
	reachAs(t, 5, "0>1, 1>0, 2>3, 3>2", []int{4, 4, 4, 4, 4}, []int{4})
	reachAs(t, 5, "0>4, 0>3, 0>2, 0>1", []int{0}, []int{0, 1, 2, 3, 4})
	reachAs(t, 5, "4>0, 3>0, 2>0, 1>0", []int{0}, []int{0})
	reachAs(t, 5, "4>0, 3>0, 2>0, 1>0", []int{3, 2}, []int{0, 2, 3})
	reachAs(t, 6, "0>2, 2>4, 4>1, 1>5, 5>5, 5>0", []int{4}, []int{0, 1, 2, 4, 5})
	reachAs(t, 6, "0>1 north 9, 0>1 south 1, 1>2 west 5", []int{0}, []int{0, 1, 2})
}

func TestReachRefuses(t *testing.T) {
	for _, g := range []impl.Graph{graphWith(1), graphFrom(t, 1, "0>0"), graphFrom(t, 3, "0>1, 1>2, 2>0"), graphWith(1600, inRow(span(0, 1599)...)...)} {
		for _, n := range append([]int{g.N, g.N + 1, 1600, 6400}, extremes...) {
			for at := range min(g.N, 3) {
				from := make([]int, min(g.N, 3))
				from[at] = n
				before := slices.Clone(from)
				if in, code := impl.Reach(g, from); code != impl.CodeBad || len(in) != 0 || !slices.Equal(from, before) {
					t.Errorf("%s from %v: %v, %d", graphText(g), before, in, code)
				}
			}
		}
		for _, many := range []int{g.N + 1, g.N + 2, 2 * g.N, 6400} {
			if many <= g.N {
				continue
			}
			if in, code := impl.Reach(g, make([]int, many)); code != impl.CodeBad || len(in) != 0 {
				t.Errorf("%s from %d cells: %v, %d", graphText(g), many, in, code)
			}
		}
		all := span(0, g.N-1)
		if got := reachOf(t, g, all); slices.Contains(got, false) {
			t.Errorf("%s from all its cells: %v", graphText(g), got)
		}
		reachOf(t, g, make([]int, g.N))
		if in, code := impl.Reach(g, append(all, 0)); code != impl.CodeBad || len(in) != 0 {
			t.Errorf("%s from all its cells and one again: %v, %d", graphText(g), in, code)
		}
	}
}

func TestReachOverManyCells(t *testing.T) {
	up, down := span(0, 1599), span(1599, 0)
	leap := make([]int, 1600) // each cell once, far from the one before
	for i := range leap {
		leap[i] = i * 611 % 1600
	}
	for i, cells := range [][]int{up, down, leap} {
		line, circle := graphWith(1600, inRow(cells...)...), graphWith(1600, inCircle(cells...)...)
		for _, at := range []int{0, 1, 2, 799, 1598, 1599} {
			want := slices.Sorted(slices.Values(cells[at:]))
			if got := cellsIn(reachOf(t, line, cells[at:at+1])); !slices.Equal(got, want) {
				t.Errorf("row %d from its cell %d: %d cells", i, at, len(got))
			}
			if got := cellsIn(reachOf(t, circle, cells[at:at+1])); len(got) != 1600 {
				t.Errorf("circle %d from its cell %d: %d cells", i, at, len(got))
			}
		}
		if got := cellsIn(reachOf(t, line, []int{cells[1599], cells[700], cells[900]})); len(got) != 900 {
			t.Errorf("row %d: %d cells", i, len(got))
		}
		if got := cellsIn(reachOf(t, circle, nil)); len(got) != 0 {
			t.Errorf("circle %d from nowhere: %v", i, got)
		}
	}
	many := manyEdges(1600, 6400)
	for _, cell := range []int{0, 1, 800, 1599} {
		reachOf(t, many, []int{cell})
	}
	open := buildOf(t, "open", openLayout(40, 40))
	if got := cellsIn(reachOf(t, open, []int{820})); len(got) != 1600 {
		t.Errorf("an open floor: %d cells", len(got))
	}
}

// pairsIn answers the links of a graph that has an edge for each bit.
func pairsIn(n, bits int) []link {
	var links []link
	for pair := range n * n {
		if bits>>pair%2 == 1 {
			links = append(links, link{pair / n, pair % n, pair % 4, 1 + pair%9})
		}
	}
	return links
}

// All graphs of up to three cells, from all their sets of cells; all of four from each cell.
func TestReachInAllSmallGraphs(t *testing.T) {
	for n := 1; n <= 3; n++ {
		for bits := range 1 << (n * n) {
			g := graphWith(n, pairsIn(n, bits)...)
			for set := range 1 << n {
				var from []int
				for cell := range n {
					if set>>cell%2 == 1 {
						from = append(from, cell)
					}
				}
				reachOf(t, g, from)
			}
		}
	}
	for bits := range 1 << 16 {
		g := graphWith(4, pairsIn(4, bits)...)
		lead := leadsTo(g)
		for cell := range 4 {
			if got, code := impl.Reach(g, []int{cell}); code != impl.CodeOK || !slices.Equal(got, lead[cell]) {
				t.Fatalf("Reach(%s, %d): %v, %d, not %v", graphText(g), cell, got, code, lead[cell])
			}
		}
	}
}

func TestReachInMadeGraphs(t *testing.T) {
	for seed := range int64(3000) {
		w := newSurveyor(160000 + seed)
		g := w.graph(14, 24)
		var from []int
		for range w.r.Intn(g.N + 1) {
			from = append(from, w.r.Intn(g.N))
		}
		reachOf(t, g, from)
		reachOf(t, g, from[:min(1, len(from))])
		if t.Failed() {
			return
		}
	}
	for seed := range int64(20) {
		w := newSurveyor(169000 + seed)
		g := w.graph(1600, 6400)
		reachOf(t, g, []int{w.r.Intn(g.N), w.r.Intn(g.N)}[:min(2, g.N)])
	}
}

func TestReachOnFloors(t *testing.T) {
	for _, c := range []struct {
		text string
		from int
		want []int
	}{
		{"grid 3 3; wall 1 0 1 2", 0, []int{0, 3, 6}},
		{"grid 3 3; wall 1 0 1 1", 0, []int{0, 2, 3, 5, 6, 7, 8}},
		{"grid 3 1; lane 0 0 2 0 east", 1, []int{1, 2}},
		{"grid 3 1; lane 0 0 2 0 west", 1, []int{0, 1}},
		{"grid 3 2; wall 0 0 2 0", 1, []int{1}},
		{"grid 2 2; lane 0 0 east; lane 1 0 south; lane 1 1 west; lane 0 1 north", 3, []int{0, 1, 2, 3}},
		{"grid 2 2; lane 0 0 east; lane 1 0 south; lane 1 1 west; bar 0 1 north; bar 0 1 east", 1, []int{1, 2, 3}},
	} {
		g := buildOf(t, c.text, layoutOf(t, c.text))
		if got := cellsIn(reachOf(t, g, []int{c.from})); !slices.Equal(got, c.want) {
			t.Errorf("%s from %d: %v, not %v", c.text, c.from, got, c.want)
		}
	}
}

// roomyGraph answers the same graph with numbers behind each list.
func roomyGraph(g impl.Graph) impl.Graph {
	for _, list := range []*[]int{&g.Start, &g.To, &g.Dir, &g.Cost} {
		*list = append(slices.Clone(*list), 7, 7)[:len(*list)]
	}
	return g
}

func behindLists(t *testing.T, what string, lists ...[]int) {
	t.Helper()
	for _, list := range lists {
		if n := len(list); !slices.Equal(list[n:n+2], []int{7, 7}) {
			t.Errorf("%s: what lies behind a list is written into", what)
		}
	}
}

func wipeGraph(g impl.Graph) {
	for _, list := range [][]int{g.Start, g.To, g.Dir, g.Cost} {
		clear(list[:cap(list)])
	}
}

func TestGraphAnswersAreNewMemory(t *testing.T) {
	for _, text := range []string{"", "0>1, 1>2, 2>0, 3>2", "0>0, 1>1, 2>2, 3>3, 0>0", "3>0, 0>3, 2>1"} {
		plain := graphFrom(t, 4, text)
		g := roomyGraph(plain)
		from := append([]int{2, 1}, 7, 7)[:2]
		back, back2, backCode := twice(impl.Reverse, g)
		in, code := impl.Reach(g, from)
		in2, _ := impl.Reach(g, from)
		least, leastCode := impl.Components(g)
		least2, _ := impl.Components(g)
		if backCode+code+leastCode != 0 || !sameGraph(g, plain) || !slices.Equal(from, []int{2, 1}) {
			t.Fatalf("%s: %s, %v", text, graphText(g), from)
		}
		behindLists(t, text, g.Start, g.To, g.Dir, g.Cost, from)
		lists := []extent{extentOf(from), extentOf(in), extentOf(in2), extentOf(least), extentOf(least2)}
		shareNone(t, text, slices.Concat(lists, graphExtents(g), graphExtents(back), graphExtents(back2)))
		wipeGraph(g)
		wipeGraph(back)
		clear(from)
		clear(in)
		clear(least)
		if !sameGraph(back2, wantReverse(plain)) || !slices.Equal(in2, wantReach(plain, []int{2, 1})) || !slices.Equal(least2, wantComponents(plain)) {
			t.Errorf("%s: an answer hangs on what was handed in or on another answer", text)
		}
		if again, _ := impl.Components(plain); !slices.Equal(again, least2) {
			t.Errorf("%s: an earlier call has left something behind", text)
		}
	}
}

// twice answers what two calls answer one after the other.
func twice(call func(impl.Graph) (impl.Graph, int), g impl.Graph) (impl.Graph, impl.Graph, int) {
	a, code := call(g)
	b, _ := call(g)
	return a, b, code
}

func TestBuildGraphIsNewMemory(t *testing.T) {
	for _, text := range []string{"grid 1 1", "grid 2 1; wall 1 0", crowded} {
		plain := layoutOf(t, text)
		l := roomyLayout(plain)
		g, code := impl.BuildGraph(l)
		again, _ := impl.BuildGraph(l)
		n := len(l.Cost)
		if code != impl.CodeOK || !sameLayout(l, plain) || l.Cost[:n+1][n] != 7 || l.Exits[:n+1][n] != 7 {
			t.Fatalf("%s: %d, %v", text, code, l)
		}
		shareNone(t, text, slices.Concat(layoutExtents(l), graphExtents(g), graphExtents(again)))
		wipe(l)
		wipeGraph(g)
		if want, _ := wantBuild(plain); !sameGraph(again, want) {
			t.Errorf("%s: the graph hangs on the layout or on another answer", text)
		}
		buildOf(t, fmt.Sprint(text, " again"), plain)
	}
}
