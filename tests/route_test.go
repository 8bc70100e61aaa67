package tests

import (
	"slices"
	"testing"

	"loop.example/s02126/impl"
)

func TestConstantsOfRoutes(t *testing.T) {
	if impl.MaxDist != 65534 {
		t.Errorf("%d", impl.MaxDist)
	}
}

// routeOf answers Route of a valid graph and a cell of it, which it wants to be as the document has it.
func routeOf(t *testing.T, g impl.Graph, target int) ([]int, []int) {
	t.Helper()
	before := copyGraph(g)
	dist, hop, code := impl.Route(g, target)
	wantDist, wantHop := wantRoute(g, target)
	if code != impl.CodeOK || !slices.Equal(dist, wantDist) || !slices.Equal(hop, wantHop) {
		t.Errorf("Route(%s, %d): %s, %d, not %s", graphText(g), target, routeText(g.N, dist, hop), code, routeText(g.N, wantDist, wantHop))
		return wantDist, wantHop
	}
	if !sameGraph(g, before) {
		t.Errorf("Route(%s, %d) writes into the graph", graphText(before), target)
	}
	return dist, hop
}

// routeFits holds the answer against the edges one by one, and against what Reach has in the reversed graph.
func routeFits(t *testing.T, g impl.Graph, target int) {
	t.Helper()
	dist, hop := routeOf(t, g, target)
	begins := make([][]int, g.N)
	for _, x := range linksOf(g) {
		if dist[x.to] < 0 {
			continue
		}
		if way := dist[x.to] + x.cost; dist[x.from] < 0 || way < dist[x.from] {
			t.Errorf("Route(%s, %d): %v makes a shorter way", graphText(g), target, x)
		} else if way == dist[x.from] {
			begins[x.from] = append(begins[x.from], x.dir)
		}
	}
	back, _ := impl.Reverse(g)
	comes, _ := impl.Reach(back, []int{target})
	for cell := range g.N {
		want := -1
		if len(begins[cell]) > 0 {
			want = slices.Min(begins[cell])
		}
		if hop[cell] != want || comes[cell] != (dist[cell] >= 0) || (dist[cell] > 0) != (want >= 0) || (dist[cell] == 0) != (cell == target) {
			t.Errorf("Route(%s, %d): cell %d has %s, and edges %v that begin a way", graphText(g), target, cell, stepText(dist[cell], hop[cell]), begins[cell])
		}
	}
}

// routePlain holds the answer against all ways of a small graph.
func routePlain(t *testing.T, g impl.Graph, target int) {
	t.Helper()
	dist, hop, code := impl.Route(g, target)
	wantDist, wantHop := plainRoute(g, target)
	if code != impl.CodeOK || !slices.Equal(dist, wantDist) || !slices.Equal(hop, wantHop) {
		t.Errorf("Route(%s, %d): %s, %d, not %s", graphText(g), target, routeText(g.N, dist, hop), code, routeText(g.N, wantDist, wantHop))
	}
}

// routeAs wants "7> 3v 0" for the cells of a graph.
func routeAs(t *testing.T, n int, text string, target int, want string) {
	t.Helper()
	g := graphFrom(t, n, text)
	routeFits(t, g, target)
	routePlain(t, g, target)
	dist, hop := routeOf(t, g, target)
	if got := routeText(n, dist, hop); got != want {
		t.Errorf("%s to %d: %s, not %s", text, target, got, want)
	}
}

func TestRouteCases(t *testing.T) {
	// one cell, no edges
	routeAs(t, 1, "", 0, "0")
	routeAs(t, 3, "", 0, "0 - -")
	routeAs(t, 3, "", 1, "- 0 -")
	routeAs(t, 3, "", 2, "- - 0")
	// one edge, each way of its own
	routeAs(t, 2, "0>1 north 1", 1, "1^ 0")
	routeAs(t, 2, "0>1 east 2", 1, "2> 0")
	routeAs(t, 2, "0>1 south 8", 1, "8v 0")
	routeAs(t, 2, "0>1 west 9", 1, "9< 0")
	routeAs(t, 2, "0>1 west 9", 0, "0 -")
	routeAs(t, 2, "1>0 west 9", 0, "0 9<")
	// rows
	routeAs(t, 4, "0>1 east 4, 1>2 south 3, 2>3 north 2", 3, "9> 5v 2^ 0")
	routeAs(t, 4, "0>1 east 4, 1>2 south 3, 2>3 north 2", 2, "7> 3v 0 -")
	routeAs(t, 4, "0>1 east 4, 1>2 south 3, 2>3 north 2", 0, "0 - - -")
	routeAs(t, 4, "3>2 west 4, 2>1 west 3, 1>0 west 2", 0, "0 2< 5< 9<")
	routeAs(t, 4, "2>0 west 4, 0>3 south 3, 3>1 east 2", 1, "5v 0 9< 2>")
	// what the target has itself plays no part
	routeAs(t, 1, "0>0 north 1", 0, "0")
	routeAs(t, 1, "0>0 west 9, 0>0 north 1, 0>0 south 5", 0, "0")
	routeAs(t, 2, "0>0 north 1, 0>1 north 1", 0, "0 -")
	routeAs(t, 2, "0>1 north 1, 1>0 south 1", 0, "0 1v")
	routeAs(t, 2, "0>1 north 1, 1>0 south 1", 1, "1^ 0")
	routeAs(t, 3, "0>1 east 1, 1>2 east 1, 2>0 west 1", 0, "0 2> 1<")
	routeAs(t, 3, "0>1 east 1, 1>2 east 1, 2>0 west 1", 1, "1> 0 2<")
	routeAs(t, 3, "0>1 east 1, 1>2 east 1, 2>0 west 1", 2, "2> 1> 0")
	// parts that do not meet, and cells that only lead away
	routeAs(t, 5, "0>1 east 1, 1>0 west 1, 2>3 east 1, 3>2 west 1, 4>4 north 1", 3, "- - 1> 0 -")
	routeAs(t, 5, "0>1 east 1, 1>0 west 1, 2>3 east 1, 3>2 west 1, 4>4 north 1", 0, "0 1< - - -")
	routeAs(t, 3, "0>1 east 5, 0>2 south 5", 1, "5> 0 -")
	// edges from a cell to itself
	routeAs(t, 2, "0>0 north 1, 0>1 west 3", 1, "3< 0")
	routeAs(t, 2, "0>1 west 3, 0>0 north 3, 1>1 north 1", 1, "3< 0")
	routeAs(t, 2, "0>0 north 1, 1>1 north 1", 1, "- 0")
}

func TestRouteTakesTheLeastLength(t *testing.T) {
	// many cheap edges against few dear ones
	routeAs(t, 3, "0>2 north 9, 0>1 west 4, 1>2 east 4", 2, "8< 4> 0")
	routeAs(t, 3, "0>2 north 9, 0>1 west 5, 1>2 east 5", 2, "9^ 5> 0")
	routeAs(t, 5, "0>4 north 5, 0>1 east 1, 1>2 east 1, 2>3 east 1, 3>4 east 1", 4, "4> 3> 2> 1> 0")
	routeAs(t, 5, "0>4 north 3, 0>1 east 1, 1>2 east 1, 2>3 east 1, 3>4 east 1", 4, "3^ 3> 2> 1> 0")
	routeAs(t, 5, "0>4 north 9, 0>1 west 1, 1>4 north 9, 1>2 west 1, 2>4 north 9, 2>3 west 1, 3>4 north 1", 4, "4< 3< 2< 1^ 0")
	// a cell that is near by few edges is left by many
	routeAs(t, 4, "0>1 north 9, 1>3 north 9, 0>2 south 9, 2>3 south 8", 3, "17v 9^ 8v 0")
	routeAs(t, 4, "0>1 north 1, 1>3 north 9, 0>2 south 5, 2>3 south 4", 3, "9v 9^ 4v 0")
	routeAs(t, 4, "0>1 north 1, 1>0 north 1, 0>2 south 5, 2>3 east 5, 1>3 east 9", 3, "10^ 9> 5> 0")
	// a shorter way to a cell is found behind a longer one
	routeAs(t, 5, "4>0 north 9, 3>0 east 1, 4>3 south 1, 2>4 west 1, 1>2 west 1", 0, "0 4< 3< 1> 2v")
	// over the target nothing is gone through twice
	routeAs(t, 4, "0>1 east 1, 1>2 east 1, 2>1 west 1, 1>0 west 1, 3>2 west 1", 1, "1> 0 1< 2<")
}

// inEachOrder calls for each order of the texts.
func inEachOrder(texts []string, visit func(ordered string)) {
	var order func(done string, rest []string)
	order = func(done string, rest []string) {
		if len(rest) == 0 {
			visit(done)
		}
		for i, text := range rest {
			order(done+text+", ", slices.Concat(rest[:i], rest[i+1:]))
		}
	}
	order("", texts)
}

func TestRouteOfSeveralEdges(t *testing.T) {
	for _, c := range []struct {
		n      int
		edges  []string
		target int
		want   string
	}{
		// from one cell to one other: the least cost, and of these the least Dir
		{2, []string{"0>1 north 3", "0>1 west 2"}, 1, "2< 0"},
		{2, []string{"0>1 north 2", "0>1 west 2"}, 1, "2^ 0"},
		{2, []string{"0>1 north 9", "0>1 east 3", "0>1 south 2", "0>1 west 2"}, 1, "2v 0"},
		{2, []string{"0>1 east 2", "0>1 east 3", "0>1 north 3", "0>1 south 2"}, 1, "2> 0"},
		{2, []string{"0>1 south 4", "0>1 south 4", "0>1 south 4"}, 1, "4v 0"},
		{2, []string{"0>1 south 4", "0>1 south 5", "0>1 south 6", "0>1 east 5"}, 1, "4v 0"},
		{2, []string{"1>0 west 1", "1>0 north 1", "0>1 north 1", "0>0 north 1"}, 0, "0 1^"},
		// by other cells, alike in length
		{3, []string{"0>2 west 8", "0>1 south 4", "1>2 east 4"}, 2, "8v 4> 0"},
		{3, []string{"0>2 south 8", "0>1 west 4", "1>2 east 4"}, 2, "8v 4> 0"},
		{3, []string{"0>2 south 8", "0>1 south 4", "1>2 east 4"}, 2, "8v 4> 0"},
		{3, []string{"0>2 west 8", "0>1 south 4", "1>2 east 4", "0>2 north 9"}, 2, "8v 4> 0"},
		{3, []string{"0>2 west 8", "0>1 south 4", "1>2 east 4", "0>0 north 1"}, 2, "8v 4> 0"},
		{4, []string{"0>1 south 1", "0>2 east 2", "1>3 west 3", "2>3 north 2"}, 3, "4> 3< 2^ 0"},
		{4, []string{"0>1 east 1", "0>2 south 2", "1>3 west 3", "2>3 north 2"}, 3, "4> 3< 2^ 0"},
		{5, []string{"0>1 west 1", "0>2 south 1", "0>3 east 1", "1>4 north 1", "2>4 north 1", "3>4 north 1"}, 4, "2> 1^ 1^ 1^ 0"},
		{5, []string{"0>1 west 1", "0>2 south 1", "0>3 east 1", "1>4 north 1", "2>4 north 1", "3>4 north 2"}, 4, "2v 1^ 1^ 2^ 0"},
		// an edge of the least Dir to where there is no way, or only a longer one
		{4, []string{"0>1 north 1", "0>2 west 1", "2>3 west 1"}, 3, "2< - 1< 0"},
		{4, []string{"0>1 north 1", "0>2 west 1", "2>3 west 1", "1>3 north 2"}, 3, "2< 2^ 1< 0"},
		{3, []string{"0>1 north 1", "1>0 north 1", "1>2 west 1"}, 2, "2^ 1< 0"},
	} {
		inEachOrder(c.edges, func(ordered string) {
			routeAs(t, c.n, ordered, c.target, c.want)
		})
	}
}

// Two edges from one cell to the target, of each Dir and some costs.
func TestRouteOfEachTwoEdges(t *testing.T) {
	for n := range 4 * 4 * 9 * 9 {
		one, other := link{0, 1, n % 4, 1 + n/16%9}, link{0, 1, n / 4 % 4, 1 + n/144}
		want := one
		if other.cost < one.cost || other.cost == one.cost && other.dir < one.dir {
			want = other
		}
		g := graphWith(2, one, other)
		if dist, hop := routeOf(t, g, 1); dist[0] != want.cost || hop[0] != want.dir {
			t.Errorf("%v, %v: %s", one, other, stepText(dist[0], hop[0]))
		}
		routePlain(t, g, 1)
	}
}

func TestRouteRefuses(t *testing.T) {
	for _, g := range []impl.Graph{graphWith(1), graphFrom(t, 1, "0>0"), graphFrom(t, 3, "0>1, 1>2, 2>0"), graphWith(1600, inRow(span(0, 1599)...)...), manyEdges(40, 6400)} {
		for _, target := range append([]int{g.N, g.N + 1, -2, -g.N, 1600, 6400, 65534}, extremes...) {
			if dist, hop, code := impl.Route(g, target); code != impl.CodeBad || len(dist) != 0 || len(hop) != 0 {
				t.Errorf("%s to %d: %v, %v, %d", graphText(g), target, dist, hop, code)
			}
		}
		routeFits(t, g, 0)
		routeFits(t, g, g.N-1)
	}
	g := graphFrom(t, 3, "0>1, 1>2, 2>0")
	for i, change := range []func(x *impl.Graph){
		func(x *impl.Graph) { *x = impl.Graph{} },
		func(x *impl.Graph) { x.N = 2 },
		func(x *impl.Graph) { x.N = 4 },
		func(x *impl.Graph) { x.Start = x.Start[:3] },
		func(x *impl.Graph) { x.Start[0] = 1 },
		func(x *impl.Graph) { x.Start[1] = 3 },
		func(x *impl.Graph) { x.Start[3] = 2 },
		func(x *impl.Graph) { x.To[0] = 3 },
		func(x *impl.Graph) { x.To[2] = -1 },
		func(x *impl.Graph) { x.Dir[1] = 4 },
		func(x *impl.Graph) { x.Dir[1] = -1 },
		func(x *impl.Graph) { x.Cost[0] = 0 },
		func(x *impl.Graph) { x.Cost[0] = -1 },
		func(x *impl.Graph) { x.Cost[0] = 10 },
		func(x *impl.Graph) { x.To = x.To[:2] },
		func(x *impl.Graph) { x.Dir = nil },
		func(x *impl.Graph) { x.Cost = append(x.Cost, 1) },
	} {
		x := copyGraph(g)
		change(&x)
		for target := -1; target <= 3; target++ {
			if dist, hop, code := impl.Route(x, target); code != impl.CodeBad || len(dist) != 0 || len(hop) != 0 {
				t.Errorf("change %d to %d: %v, %v, %d", i, target, dist, hop, code)
			}
		}
	}
}

// costing gives all links one cost.
func costing(links []link, cost int) []link {
	out := slices.Clone(links)
	for i := range out {
		out[i].cost = cost
	}
	return out
}

func TestRouteOverManyCells(t *testing.T) {
	leap := make([]int, 1600) // each cell once, far from the one before
	for i := range leap {
		leap[i] = i * 611 % 1600
	}
	for i, cells := range [][]int{span(0, 1599), span(1599, 0), leap} {
		for _, cost := range []int{1, 9} {
			line, circle := graphWith(1600, costing(inRow(cells...), cost)...), graphWith(1600, costing(inCircle(cells...), cost)...)
			for _, at := range []int{0, 1, 799, 1598, 1599} {
				inLine, _ := routeOf(t, line, cells[at])
				around, _ := routeOf(t, circle, cells[at])
				for j, cell := range cells {
					want := -1
					if j <= at {
						want = (at - j) * cost
					}
					if inLine[cell] != want || around[cell] != (at-j+1600)%1600*cost {
						t.Fatalf("row %d of cost %d, from its cell %d to %d: %d, and %d in a circle", i, cost, j, at, inLine[cell], around[cell])
					}
				}
			}
		}
	}
	dist, hop := routeOf(t, graphWith(1600), 1599)
	if slices.Max(dist[:1599]) != -1 || dist[1599] != 0 || slices.Max(hop) != -1 {
		t.Errorf("without edges: %v, %v", dist, hop)
	}
}

func TestRouteOfMostEdges(t *testing.T) {
	for _, cells := range []int{1, 2, 3, 40, 1599, 1600} {
		for _, cost := range []int{0, 1, 9} {
			g := manyEdges(cells, 6400)
			for i := range g.Cost {
				if cost > 0 {
					g.Cost[i] = cost
				}
			}
			routeFits(t, g, 0)
			routeFits(t, g, cells-1)
			routeFits(t, g, cells/2)
		}
	}
	// each cell leads four cells on: by the dearest edge, or by cheaper ones that are longer together or alike
	var links []link
	for i := range 6400 {
		cell, far := i/4, 1+i%4
		links = append(links, link{cell, min(cell+far, 1599), 3 - i%4, []int{2, 4, 7, 8}[i%4]})
	}
	g := graphWith(1600, links...)
	routeFits(t, g, 1599)
	if dist, hop := routeOf(t, g, 1599); dist[1595] != 8 || hop[1595] != 0 || dist[1596] != 6 || hop[1596] != 2 || dist[3] != 2*1596 {
		t.Errorf("%s, %s, %d", stepText(dist[1595], hop[1595]), stepText(dist[1596], hop[1596]), dist[3])
	}
	open := buildOf(t, "open", openLayout(40, 40))
	for _, target := range []int{0, 39, 820, 1560, 1599} {
		routeFits(t, open, target)
		dist, _ := routeOf(t, open, target)
		for cell, at := range spotsOf(40, 40) {
			to := spotsOf(40, 40)[target]
			if steps := max(at.x-to.x, to.x-at.x) + max(at.y-to.y, to.y-at.y); dist[cell] != steps {
				t.Fatalf("from %v to %v: %d", at, to, dist[cell])
			}
		}
	}
}

// All graphs of up to four cells with at most one edge for each two cells.
func TestRouteInAllSmallGraphs(t *testing.T) {
	for n := 1; n <= 4; n++ {
		for bits := range 1 << (n * n) {
			g := graphWith(n, pairsIn(n, bits)...)
			for target := range n {
				routePlain(t, g, target)
			}
			if t.Failed() {
				return
			}
		}
	}
}

// All rows of up to four edges between two cells, and of up to three between three, of two Dirs and two costs.
func TestRouteOfAllShortRowsOfEdges(t *testing.T) {
	rows := 0
	for n, most := range map[int]int{2: 4, 3: 3} {
		var fill func(links []link)
		fill = func(links []link) {
			rows++
			g := graphWith(n, links...)
			for target := range n {
				routePlain(t, g, target)
			}
			if len(links) == most || t.Failed() {
				return
			}
			for choice := range n * n * 4 {
				pair := choice / 4
				fill(append(slices.Clone(links), link{pair / n, pair % n, 1 + choice%2, 1 + choice/2%2}))
			}
		}
		fill(nil)
	}
	if rows != 1+16+16*16+16*16*16+16*16*16*16+1+36+36*36+36*36*36 {
		t.Errorf("%d rows", rows)
	}
}

// lateTies counts the cells whose hop is not that of the first of their edges that begin a way of the least length.
func lateTies(g impl.Graph, target int) int {
	dist, hop := wantRoute(g, target)
	late := 0
	met := make([]bool, g.N)
	for _, x := range linksOf(g) {
		if dist[x.to] >= 0 && dist[x.to]+x.cost == dist[x.from] && !met[x.from] {
			met[x.from] = true
			if x.dir != hop[x.from] {
				late++
			}
		}
	}
	return late
}

func TestRouteInMadeGraphs(t *testing.T) {
	late := 0
	for seed := range int64(3000) {
		w := newSurveyor(200000 + seed)
		g := w.graph(12, 30)
		for i := range g.Cost {
			if seed%3 == 0 {
				g.Cost[i] = 1
			} else if seed%3 == 1 {
				g.Cost[i] = 1 + g.Cost[i]%3
			}
		}
		for target := range g.N {
			routeFits(t, g, target)
			late += lateTies(g, target)
		}
		if t.Failed() {
			return
		}
	}
	if late < 2000 {
		t.Errorf("only %d cells have ways alike in length whose first edge is not the one to go by", late)
	}
	for seed := range int64(1000) {
		g := newSurveyor(205000+seed).graph(6, 12)
		for target := range g.N {
			routePlain(t, g, target)
		}
	}
	for seed := range int64(15) {
		w := newSurveyor(209000 + seed)
		g := w.graph(1600, 6400)
		routeFits(t, g, w.r.Intn(g.N))
	}
}

// By its hops a cell comes to the target over cells of less and less distance, and the costs of the edges add up to it.
func TestRouteLeadsToTheTarget(t *testing.T) {
	for seed := range int64(300) {
		w := newSurveyor(210000 + seed)
		g := w.graph(30, 80)
		target := w.r.Intn(g.N)
		dist, hop, _ := impl.Route(g, target)
		links := linksOf(g)
		for from := range g.N {
			length, cell := 0, from
			for dist[cell] > 0 {
				at := slices.IndexFunc(links, func(x link) bool {
					return x.from == cell && x.dir == hop[cell] && dist[x.to] >= 0 && dist[x.to]+x.cost == dist[cell]
				})
				if at < 0 {
					t.Fatalf("%s: to %d no edge of %d goes by %s", graphText(g), target, cell, stepText(dist[cell], hop[cell]))
				}
				length, cell = length+links[at].cost, links[at].to
			}
			if dist[from] >= 0 && (cell != target || length != dist[from]) {
				t.Fatalf("%s: from %d to %d the hops lead to %d by %d", graphText(g), from, target, cell, length)
			}
		}
	}
}

func TestRouteIsNewMemory(t *testing.T) {
	for _, text := range []string{"", "0>1, 1>2, 2>0, 3>2", "0>0, 1>1, 2>2, 3>3, 0>0", "3>0 west 2, 0>3 east 1, 2>1 south 9, 3>0 north 2"} {
		plain := graphFrom(t, 4, text)
		g := roomyGraph(plain)
		dist, hop, code := impl.Route(g, 0)
		dist2, hop2, _ := impl.Route(g, 0)
		if code != impl.CodeOK || !sameGraph(g, plain) {
			t.Fatalf("%s: %s, %d", text, graphText(g), code)
		}
		behindLists(t, text, g.Start, g.To, g.Dir, g.Cost)
		shareNone(t, text, append(graphExtents(g), extentOf(dist), extentOf(hop), extentOf(dist2), extentOf(hop2)))
		wipeGraph(g)
		clear(dist)
		clear(hop)
		wantDist, wantHop := wantRoute(plain, 0)
		if !slices.Equal(dist2, wantDist) || !slices.Equal(hop2, wantHop) {
			t.Errorf("%s: an answer hangs on the graph or on another answer", text)
		}
		if dist, hop, code := impl.Route(plain, 4); code != impl.CodeBad || len(dist)+len(hop) != 0 {
			t.Errorf("%s: %v, %v, %d", text, dist, hop, code)
		}
		routeFits(t, plain, 0)
	}
}

func TestRouteOnFloors(t *testing.T) {
	for _, c := range []struct {
		text   string
		target int
		want   string
	}{
		{"grid 1 1", 0, "0"},
		{"grid 3 3", 4, "2> 1v 2v / 1> 0 1< / 2^ 1^ 2^"},
		{"grid 3 3", 0, "0 1< 2< / 1^ 2^ 3^ / 2^ 3^ 4^"},
		{"grid 3 3", 8, "4> 3> 2v / 3> 2> 1v / 2> 1> 0"},
		{"grid 3 1; zone 1 0 cost 5", 2, "6> 1> 0"},
		{"grid 3 1; zone 1 0 cost 5", 0, "0 1< 6<"},
		{"grid 3 2; zone 1 0 cost 9", 2, "4v 1> 0 / 3> 2> 1^"},
		{"grid 3 2; zone 1 0 cost 3", 2, "4> 1> 0 / 3> 2> 1^"},
		{"grid 3 2; zone 1 0 cost 4", 2, "4v 1> 0 / 3> 2> 1^"},
		{"grid 3 3; wall 1 0 1 1", 2, "6v - 0 / 5v - 1^ / 4> 3> 2^"},
		{"grid 3 1; wall 1 0", 2, "- - 0"},
		{"grid 3 1; lane 0 0 2 0 east", 1, "1> 0 -"},
		{"grid 2 2; lane 0 0 east; lane 1 0 south; lane 1 1 west; lane 0 1 north", 0, "0 3v / 1^ 2<"},
	} {
		l := layoutOf(t, c.text)
		g := buildOf(t, c.text, l)
		routeFits(t, g, c.target)
		dist, hop := routeOf(t, g, c.target)
		if got := routeText(l.W, dist, hop); got != c.want {
			t.Errorf("%s to %d: %s, not %s", c.text, c.target, got, c.want)
		}
	}
}
