package tests

import (
	"fmt"
	"slices"
	"strings"
	"testing"

	"loop.example/s02126/impl"
)

// buildOf answers BuildGraph of a layout, which it wants to be as the document has it.
func buildOf(t *testing.T, what string, l impl.Layout) impl.Graph {
	t.Helper()
	before := copyLayout(l)
	got, code := impl.BuildGraph(l)
	want, wantCode := wantBuild(l)
	if code != wantCode || !sameGraph(got, want) {
		t.Errorf("BuildGraph(%s): %s, %d, not %s, %d", what, graphText(got), code, graphText(want), wantCode)
	}
	if !sameLayout(l, before) {
		t.Errorf("BuildGraph(%s) writes into the layout", what)
	}
	if code == impl.CodeOK {
		graphGood(t, what, got)
	}
	return got
}

// buildAs wants the layout that is declared so to have these edges.
func buildAs(t *testing.T, text, want string) {
	t.Helper()
	l := layoutOf(t, text)
	if got, g := buildOf(t, text, l), graphFrom(t, l.W*l.H, want); !sameGraph(got, g) {
		t.Errorf("%s: %s, not %s", text, graphText(got), graphText(g))
	}
}

func TestBuildGraphCases(t *testing.T) {
	buildAs(t, "grid 1 1", "")
	buildAs(t, "grid 1 1; wall 0 0", "")
	buildAs(t, "grid 1 1; zone 0 0 cost 9; lane 0 0 east", "")
	buildAs(t, "grid 2 1", "0>1 east 1, 1>0 west 1")
	buildAs(t, "grid 1 2", "0>1 south 1, 1>0 north 1")
	buildAs(t, "grid 2 1; zone 1 0 cost 7", "0>1 east 7, 1>0 west 1")
	buildAs(t, "grid 1 2; zone 0 0 cost 9; zone 0 1 cost 2", "0>1 south 2, 1>0 north 9")
	buildAs(t, "grid 2 1; wall 1 0", "")
	buildAs(t, "grid 2 1; lane 0 0 1 0 west", "1>0 west 1")
	buildAs(t, "grid 4 1; zone 2 0 cost 5; lane 0 0 3 0 east", "0>1 east 1, 1>2 east 5, 2>3 east 1")
	buildAs(t, "grid 4 1; zone 2 0 cost 5", "0>1 east 1, 1>2 east 5, 1>0 west 1, 2>3 east 1, 2>1 west 1, 3>2 west 5")
	buildAs(t, "grid 1 4; zone 0 2 cost 5", "0>1 south 1, 1>0 north 1, 1>2 south 5, 2>1 north 1, 2>3 south 1, 3>2 north 5")
	buildAs(t, "grid 4 1; wall 2 0", "0>1 east 1, 1>0 west 1")
	buildAs(t, "grid 1 4; wall 0 1; lane 0 0 0 3 north", "3>2 north 1")
	buildAs(t, "grid 2 2", "0>1 east 1, 0>2 south 1, 1>3 south 1, 1>0 west 1, 2>0 north 1, 2>3 east 1, 3>1 north 1, 3>2 west 1")
}

// The cell in the middle, with costs by which its neighbors can be told apart.
func TestBuildGraphOfEachSumOfExits(t *testing.T) {
	leads := []string{"4>1 north 2", "4>5 east 6", "4>7 south 8", "4>3 west 4"}
	for sum := range 16 {
		l := impl.Layout{W: 3, H: 3, Cost: []int{1, 2, 3, 4, 5, 6, 7, 8, 9}, Exits: make([]int, 9)}
		l.Exits[4] = sum
		var want []string
		for way, bit := range []int{1, 2, 4, 8} {
			if sum/bit%2 == 1 {
				want = append(want, leads[way])
			}
		}
		if got, g := buildOf(t, fmt.Sprint(sum), l), graphFrom(t, 9, strings.Join(want, ", ")); !sameGraph(got, g) {
			t.Errorf("%d: %s, not %s", sum, graphText(got), graphText(g))
		}
	}
	for _, sum := range []int{-1, 16, 17, 31, 32, 15 + 16} {
		l := openLayout(3, 3)
		l.Exits[4] = sum
		if g, code := impl.BuildGraph(l); code != impl.CodeBad || !sameGraph(g, impl.Graph{}) {
			t.Errorf("%d: %v, %d", sum, g, code)
		}
	}
}

func TestBuildGraphOfGreatLayouts(t *testing.T) {
	for _, side := range [][]int{{1, 40}, {40, 1}, {40, 40}, {39, 40}, {2, 40}} {
		w, h := side[0], side[1]
		l := openLayout(w, h)
		for cell := range l.Cost {
			l.Cost[cell] = 1 + cell%9
		}
		what := fmt.Sprint(w, " by ", h)
		g := buildOf(t, what, l)
		if g.N != w*h || len(g.To) != 2*(w*(h-1)+h*(w-1)) {
			t.Errorf("%s: %s", what, graphText(g))
		}
		clear(l.Exits)
		if g := buildOf(t, what+", shut", l); len(g.To) != 0 || !slices.Equal(g.Start, make([]int, w*h+1)) {
			t.Errorf("%s, shut: %s", what, graphText(g))
		}
		clear(l.Cost)
		if g := buildOf(t, what+", all walls", l); len(g.To) != 0 || g.N != w*h {
			t.Errorf("%s, all walls: %s", what, graphText(g))
		}
	}
	for _, side := range [][]int{{0, 40}, {40, 0}, {41, 40}, {40, 41}, {1, 41}, {41, 1}, {-1, -1}} {
		n := max(0, side[0]*side[1])
		l := impl.Layout{W: side[0], H: side[1], Cost: slices.Repeat([]int{1}, n), Exits: make([]int, n)}
		if g, code := impl.BuildGraph(l); code != impl.CodeBad || !sameGraph(g, impl.Graph{}) {
			t.Errorf("%v: %s, %d", side, graphText(g), code)
		}
	}
}

func TestBuildGraphRefuses(t *testing.T) {
	cost, exits := []int{1, 1, 0, 1}, []int{2, 4 + 8, 0, 1}
	change := []func(l *impl.Layout){
		func(l *impl.Layout) { *l = impl.Layout{} },
		func(l *impl.Layout) { l.W = 3 },
		func(l *impl.Layout) { l.W, l.H = 4, 2 },
		func(l *impl.Layout) { l.W, l.H = -2, -2 },
		func(l *impl.Layout) { l.Cost = l.Cost[:3] },
		func(l *impl.Layout) { l.Exits = append(l.Exits, 0) },
		func(l *impl.Layout) { l.Cost[0] = 10 },
		func(l *impl.Layout) { l.Cost[0] = -1 },
		func(l *impl.Layout) { l.Exits[0] = 1 },
		func(l *impl.Layout) { l.Exits[0] = 4 },
		func(l *impl.Layout) { l.Exits[0] = 2 + 8 },
		func(l *impl.Layout) { l.Exits[2] = 2 },
		func(l *impl.Layout) { l.Cost[1] = 0 },
		func(l *impl.Layout) { l.Targets = []impl.Target{target("a", 0, 2)} },
		func(l *impl.Layout) { l.Targets = []impl.Target{target("a", 2, 0)} },
		func(l *impl.Layout) { l.Targets = []impl.Target{target("a", 0, 4)} },
		func(l *impl.Layout) { l.Targets = []impl.Target{target("", 0, 0)} },
		func(l *impl.Layout) { l.Targets = []impl.Target{target("b", 0, 0), target("a", 0, 1)} },
	}
	for i, change := range change {
		l := impl.Layout{W: 2, H: 2, Cost: slices.Clone(cost), Exits: slices.Clone(exits)}
		buildOf(t, "the layout as it is", l)
		change(&l)
		if g, code := impl.BuildGraph(l); code != impl.CodeBad || !sameGraph(g, impl.Graph{}) {
			t.Errorf("change %d: %s, %d", i, graphText(g), code)
		}
	}
}

func TestBuildGraphLeavesTargetsAside(t *testing.T) {
	for seed := range int64(500) {
		l := newSurveyor(130000 + seed).layout(6)
		with := buildOf(t, fmt.Sprint(l), l)
		l.Targets = nil
		if without := buildOf(t, fmt.Sprint(l), l); !sameGraph(with, without) {
			t.Fatalf("%v: %s, not %s", l, graphText(with), graphText(without))
		}
	}
}

// Each exit is an edge, and each edge an exit, asked of the graph itself.
func TestBuildGraphHasExactlyTheExits(t *testing.T) {
	for seed := range int64(300) {
		l := newSurveyor(140000 + seed).layout(9)
		g, code := impl.BuildGraph(l)
		if code != impl.CodeOK || g.N != l.W*l.H {
			t.Fatalf("%v: %d", l, code)
		}
		sums := make([]int, g.N)
		for _, x := range linksOf(g) {
			sums[x.from] += 1 << x.dir
			at := (spot{x.from % l.W, x.from / l.W}).toward(x.dir)
			if x.to != at.y*l.W+at.x || !at.isWithin(l.W, l.H) || x.cost != l.Cost[x.to] || l.Cost[x.from] == 0 {
				t.Fatalf("%v: edge %v", l, x)
			}
		}
		if !slices.Equal(sums, l.Exits) {
			t.Fatalf("%v: exits %v", l, sums)
		}
		for cell := range g.N {
			if dirs := g.Dir[g.Start[cell]:g.Start[cell+1]]; !slices.IsSorted(dirs) {
				t.Fatalf("%v: ways %v", l, dirs)
			}
		}
	}
}

// reverseOf answers Reverse of a valid graph, which it wants to be as the document has it.
func reverseOf(t *testing.T, g impl.Graph) impl.Graph {
	t.Helper()
	before := copyGraph(g)
	got, code := impl.Reverse(g)
	if want := wantReverse(g); code != impl.CodeOK || !sameGraph(got, want) {
		t.Errorf("Reverse(%s): %s, %d, not %s", graphText(g), graphText(got), code, graphText(want))
	}
	if !sameGraph(g, before) {
		t.Errorf("Reverse(%s) writes into it", graphText(before))
	}
	if !impl.ValidGraph(got) {
		t.Errorf("Reverse(%s) is not valid: %s", graphText(g), graphText(got))
	}
	return got
}

// isTurned wants a graph to have the same edges when it is reversed twice, in the order of where they lead.
func isTurned(t *testing.T, g impl.Graph) {
	t.Helper()
	twice := linksOf(reverseOf(t, reverseOf(t, g)))
	want := linksOf(g)
	slices.SortStableFunc(want, func(a, b link) int {
		if a.from != b.from {
			return a.from - b.from
		}
		return a.to - b.to
	})
	if !slices.Equal(twice, want) {
		t.Errorf("%s: reversed twice it has %v, not %v", graphText(g), twice, want)
	}
}

// reverseAs names the edges of the reversed graph in their order.
func reverseAs(t *testing.T, n int, text, want string) {
	t.Helper()
	g := graphFrom(t, n, text)
	if got, back := reverseOf(t, g), graphFrom(t, n, want); !sameGraph(got, back) {
		t.Errorf("%s: %s, not %s", text, graphText(got), graphText(back))
	}
	isTurned(t, g)
}

func TestReverseCases(t *testing.T) {
	reverseAs(t, 1, "", "")
	reverseAs(t, 5, "", "")
	reverseAs(t, 1, "0>0 west 9", "0>0 west 9")
	reverseAs(t, 1, "0>0 west 9, 0>0 north 1, 0>0 south 4", "0>0 west 9, 0>0 north 1, 0>0 south 4")
	reverseAs(t, 2, "0>1 east 3", "1>0 east 3")
	reverseAs(t, 2, "1>0 west 3", "0>1 west 3")
	reverseAs(t, 2, "0>1 east 3, 1>0 west 8", "0>1 west 8, 1>0 east 3")
	reverseAs(t, 2, "0>1 west 2, 0>1 north 9, 0>1 south 2, 0>1 west 1", "1>0 west 2, 1>0 north 9, 1>0 south 2, 1>0 west 1")
	reverseAs(t, 3, "0>2 north 1, 1>2 east 2, 2>2 south 3", "2>0 north 1, 2>1 east 2, 2>2 south 3")
	reverseAs(t, 3, "2>0 north 1, 1>0 east 2, 0>0 south 3", "0>0 south 3, 0>1 east 2, 0>2 north 1")
	reverseAs(t, 4, "3>1 west 4, 3>0 south 3, 0>3 east 2, 0>1 north 1, 3>1 north 9", "0>3 south 3, 1>0 north 1, 1>3 west 4, 1>3 north 9, 3>0 east 2")
	reverseAs(t, 6, "5>2 west 4, 2>5 east 4", "5>2 east 4, 2>5 west 4")
	reverseAs(t, 3, "0>0 north 1, 0>1 north 2, 0>2 north 3", "0>0 north 1, 1>0 north 2, 2>0 north 3")
	reverseAs(t, 3, "1>2 west 5, 1>0 east 6, 1>1 south 7", "0>1 east 6, 1>1 south 7, 2>1 west 5")
}

func TestReverseOfGreatGraphs(t *testing.T) {
	for _, cells := range []int{1, 2, 39, 1599, 1600} {
		isTurned(t, manyEdges(cells, 6400))
		isTurned(t, graphWith(cells, inRow(span(0, cells-1)...)...))
		isTurned(t, graphWith(cells, inCircle(span(cells-1, 0)...)...))
		var all []link
		for i := range 6400 {
			all = append(all, link{i % cells, cells / 2, i % 4, 1 + i%9})
		}
		g := graphWith(cells, all...)
		isTurned(t, g)
		if back := reverseOf(t, g); back.Start[cells/2] != 0 || back.Start[cells/2+1] != 6400 {
			t.Errorf("%d cells: %v", cells, back.Start)
		}
	}
	isTurned(t, buildOf(t, "open", openLayout(40, 40)))
}

// All graphs of up to three cells with up to four edges, which differ in their costs.
func TestReverseOfAllSmallGraphs(t *testing.T) {
	for n := 1; n <= 3; n++ {
		var fill func(links []link)
		fill = func(links []link) {
			isTurned(t, graphWith(n, links...))
			if len(links) == 4 || t.Failed() {
				return
			}
			for pair := range n * n {
				fill(append(slices.Clone(links), link{pair / n, pair % n, len(links) % 4, 9 - len(links)}))
			}
		}
		fill(nil)
	}
}

func TestReverseOfMadeGraphs(t *testing.T) {
	for seed := range int64(2000) {
		isTurned(t, newSurveyor(150000+seed).graph(12, 40))
	}
	for seed := range int64(20) {
		isTurned(t, newSurveyor(159000+seed).graph(1600, 6400))
	}
}
