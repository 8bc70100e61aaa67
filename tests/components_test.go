package tests

import (
	"slices"
	"testing"

	"loop.example/s02126/impl"
)

// componentsOf answers Components of a valid graph into which nothing is to be written.
func componentsOf(t *testing.T, g impl.Graph) []int {
	t.Helper()
	before := copyGraph(g)
	got, code := impl.Components(g)
	if code != impl.CodeOK || len(got) != g.N {
		t.Errorf("Components(%s): %v, %d", graphText(g), got, code)
		return make([]int, g.N)
	}
	if !sameGraph(g, before) {
		t.Errorf("Components(%s) writes into it", graphText(before))
	}
	return got
}

// componentsFit holds the answer against the ways of a small graph, and against Reach from each cell.
func componentsFit(t *testing.T, g impl.Graph) []int {
	t.Helper()
	got := componentsOf(t, g)
	if want := wantComponents(g); !slices.Equal(got, want) {
		t.Errorf("Components(%s): %v, not %v", graphText(g), got, want)
	}
	var reached [][]bool
	for cell := range g.N {
		in, _ := impl.Reach(g, []int{cell})
		reached = append(reached, in)
	}
	for a := range g.N {
		if got[a] > a || got[got[a]] != got[a] {
			t.Errorf("Components(%s): %v has no least cell for %d", graphText(g), got, a)
		}
		for b := range g.N {
			if (got[a] == got[b]) != (reached[a][b] && reached[b][a]) {
				t.Errorf("Components(%s): %v of %d and %d is not what Reach has", graphText(g), got, a, b)
			}
		}
	}
	return got
}

func componentsAs(t *testing.T, n int, text string, want ...int) {
	t.Helper()
	if got := componentsFit(t, graphFrom(t, n, text)); !slices.Equal(got, want) {
		t.Errorf("%s: %v, not %v", text, got, want)
	}
}

func TestComponentsCases(t *testing.T) {
	componentsAs(t, 1, "", 0)
	componentsAs(t, 1, "0>0, 0>0", 0)
	componentsAs(t, 4, "", 0, 1, 2, 3)
	componentsAs(t, 4, "0>0, 1>1, 2>2, 3>3", 0, 1, 2, 3)
	// rows one way
	componentsAs(t, 4, "0>1, 1>2, 2>3", 0, 1, 2, 3)
	componentsAs(t, 4, "3>2, 2>1, 1>0", 0, 1, 2, 3)
	componentsAs(t, 4, "0>1, 0>1, 0>2, 0>3, 1>2, 1>3, 2>3", 0, 1, 2, 3)
	// rows both ways
	componentsAs(t, 4, "0>1, 1>0, 1>2, 2>1, 2>3, 3>2", 0, 0, 0, 0)
	// one circle, in each direction and from cells that are not the first
	componentsAs(t, 4, "0>1, 1>2, 2>3, 3>0", 0, 0, 0, 0)
	componentsAs(t, 4, "0>3, 3>2, 2>1, 1>0", 0, 0, 0, 0)
	componentsAs(t, 5, "2>3, 3>4, 4>2", 0, 1, 2, 2, 2)
	componentsAs(t, 5, "4>3, 3>1, 1>4", 0, 1, 2, 1, 1)
	// circles in one another, circles that share a cell
	componentsAs(t, 6, "0>1, 1>2, 2>3, 3>4, 4>5, 5>0, 2>1, 4>3", 0, 0, 0, 0, 0, 0)
	componentsAs(t, 5, "0>1, 1>2, 2>0, 2>3, 3>4, 4>2", 0, 0, 0, 0, 0)
	componentsAs(t, 5, "4>3, 3>2, 2>4, 2>1, 1>0, 0>2", 0, 0, 0, 0, 0)
	componentsAs(t, 7, "6>5, 5>6, 5>4, 4>5, 4>3, 3>4", 0, 1, 2, 3, 3, 3, 3)
	// joined one way only, in each direction
	componentsAs(t, 4, "0>1, 1>0, 2>3, 3>2, 1>2", 0, 0, 2, 2)
	componentsAs(t, 4, "0>1, 1>0, 2>3, 3>2, 2>1", 0, 0, 2, 2)
	componentsAs(t, 4, "0>2, 2>0, 1>3, 3>1, 0>1, 2>3", 0, 1, 0, 1)
	componentsAs(t, 4, "0>2, 2>0, 1>3, 3>1, 1>0, 3>2", 0, 1, 0, 1)
	componentsAs(t, 6, "0>1, 1>0, 1>2, 2>3, 3>2, 3>4, 4>5, 5>4, 0>5", 0, 0, 2, 2, 4, 4)
	componentsAs(t, 6, "0>1, 1>0, 1>2, 2>3, 3>2, 3>4, 4>5, 5>4, 5>0", 0, 0, 0, 0, 0, 0)
	// an edge to a component that is known already brings nothing back
	componentsAs(t, 4, "0>1, 0>2, 2>1, 2>3, 3>2, 3>1", 0, 1, 2, 2)
	componentsAs(t, 5, "0>1, 1>2, 2>1, 0>3, 3>2, 3>4, 4>3, 4>1", 0, 1, 1, 3, 3)
	// the least cell is met last
	componentsAs(t, 5, "0>4, 4>3, 3>2, 2>1, 1>4", 0, 1, 1, 1, 1)
	componentsAs(t, 5, "0>3, 3>4, 4>2, 2>1, 1>2, 2>3", 0, 1, 1, 1, 1)
	componentsAs(t, 6, "0>5, 5>4, 4>5, 5>2, 2>3, 3>1, 1>2", 0, 1, 1, 1, 4, 4)
	// a way back that is found late, over a cell that was done with
	componentsAs(t, 5, "0>1, 1>2, 2>3, 3>1, 2>4, 4>0", 0, 0, 0, 0, 0)
	componentsAs(t, 5, "0>1, 1>2, 2>1, 1>3, 3>2, 3>4, 4>3, 4>4", 0, 1, 1, 1, 1)
}

func TestComponentsOfGreatGraphs(t *testing.T) {
	leap := make([]int, 1600)
	for i := range leap {
		leap[i] = i * 611 % 1600
	}
	self := span(0, 1599)
	none := make([]int, 1600)
	want := func(what string, g impl.Graph, want []int) {
		t.Helper()
		if got := componentsOf(t, g); !slices.Equal(got, want) {
			t.Errorf("%s: %v", what, got)
		}
	}
	want("no edges", graphWith(1600), self)
	for _, cells := range [][]int{span(0, 1599), span(1599, 0), leap} {
		line, circle := inRow(cells...), inCircle(cells...)
		turned := slices.Clone(cells)
		slices.Reverse(turned)
		want("row", graphWith(1600, line...), self)
		want("circle", graphWith(1600, circle...), none)
		want("row both ways", graphWith(1600, append(line, inRow(turned...)...)...), none)
		want("circle that is not closed", graphWith(1600, circle[:1599]...), self)
		// the last 1000 cells of the row go round
		short := append(slices.Clone(line), link{cells[1599], cells[600], 0, 1})
		least := slices.Clone(self)
		first := slices.Min(cells[600:])
		for _, cell := range cells[600:] {
			least[cell] = first
		}
		want("circle at the end of a row", graphWith(1600, short...), least)
	}
	for _, g := range []impl.Graph{manyEdges(1, 6400), manyEdges(2, 6400), manyEdges(40, 6400)} {
		componentsFit(t, g)
	}
	// 1600 edges each of a circle up, one down, one of leaps, and from each cell to itself
	full := slices.Concat(inCircle(span(0, 1599)...), inCircle(span(1599, 0)...), inCircle(leap...), pairsWithSelf(1600))
	want("MaxEdges", graphWith(1600, full...), none)
	// four edges in a row forward, so that nothing comes back
	var ahead []link
	for i := range 6400 {
		ahead = append(ahead, link{i / 4, min(i/4+1+i%4, 1599), i % 4, 1})
	}
	want("MaxEdges forward", graphWith(1600, ahead...), self)
	want("open floor", buildOf(t, "open", openLayout(40, 40)), none)
}

func pairsWithSelf(n int) []link {
	var links []link
	for cell := range n {
		links = append(links, link{cell, cell, 0, 1})
	}
	return links
}

func TestComponentsOfAllSmallGraphs(t *testing.T) {
	for n := 1; n <= 4; n++ {
		for bits := range 1 << (n * n) {
			componentsFit(t, graphWith(n, pairsIn(n, bits)...))
			if t.Failed() {
				return
			}
		}
	}
}

func TestComponentsOfMadeGraphs(t *testing.T) {
	several := 0
	for seed := range int64(4000) {
		w := newSurveyor(170000 + seed)
		g := w.graph(14, 24)
		got := componentsFit(t, g)
		if kinds := slices.Compact(slices.Sorted(slices.Values(got))); len(kinds) > 1 && len(kinds) < g.N {
			several++
		}
		if t.Failed() {
			return
		}
	}
	if several < 1000 {
		t.Errorf("only %d graphs have several components of several cells", several)
	}
	for seed := range int64(30) {
		componentsFit(t, newSurveyor(179000+seed).graph(120, 300))
	}
}

// For great graphs: what reaches a cell and is reached by it, found by Reach there and in the reversed graph.
func TestComponentsOfGreatMadeGraphs(t *testing.T) {
	for seed := range int64(12) {
		g := newSurveyor(180000+seed).graph(1600, []int{1000, 2500, 6400}[seed%3])
		got := componentsOf(t, g)
		back := wantReverse(g)
		for cell := 0; cell < g.N; cell += 1 + g.N/60 {
			there, here := wantReach(g, []int{cell}), wantReach(back, []int{cell})
			least := -1
			for other := range g.N {
				both := there[other] && here[other]
				if both && least < 0 {
					least = other
				}
				if both != (got[other] == got[cell]) {
					t.Fatalf("seed %d: %d and %d", seed, cell, other)
				}
			}
			if got[cell] != least {
				t.Fatalf("seed %d: the least of %d is %d, not %d", seed, cell, got[cell], least)
			}
		}
	}
}

// Components do not hang on the direction in which edges are drawn.
func TestComponentsOfReversedGraphs(t *testing.T) {
	for seed := range int64(300) {
		g := newSurveyor(190000+seed).graph(30, 60)
		if got, back := componentsOf(t, g), componentsOf(t, reverseOf(t, g)); !slices.Equal(got, back) {
			t.Fatalf("%s: %v and %v", graphText(g), got, back)
		}
	}
}
