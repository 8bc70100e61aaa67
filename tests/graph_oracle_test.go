package tests

import (
	"fmt"
	"slices"
	"strconv"
	"strings"
	"testing"

	"loop.example/s02126/impl"
)

// link is an edge with both its ends.
type link struct{ from, to, dir, cost int }

// graphWith answers the graph of these links; those that leave one cell stay in their order.
func graphWith(n int, links ...link) impl.Graph {
	leaving := make([][]link, n)
	for _, x := range links {
		leaving[x.from] = append(leaving[x.from], x)
	}
	g := impl.Graph{N: n, Start: []int{0}}
	for cell := range n {
		for _, x := range leaving[cell] {
			g.To, g.Dir, g.Cost = append(g.To, x.to), append(g.Dir, x.dir), append(g.Cost, x.cost)
		}
		g.Start = append(g.Start, len(g.To))
	}
	return g
}

// linksOf reads the graph by the document's words: the edges of cell c are those from Start[c] to Start[c+1] - 1.
func linksOf(g impl.Graph) []link {
	var all []link
	cell := 0
	for i := range g.To {
		for !(g.Start[cell] <= i && i <= g.Start[cell+1]-1) {
			cell++
		}
		all = append(all, link{cell, g.To[i], g.Dir[i], g.Cost[i]})
	}
	return all
}

// linkOf reads one as "2>0", or with its way and cost as "2>0 west 5".
func linkOf(t *testing.T, text string) link {
	t.Helper()
	words := strings.Fields(text)
	from, to, _ := strings.Cut(words[0], ">")
	x := link{dir: impl.East, cost: 1}
	var err1, err2, err3 error
	x.from, err1 = strconv.Atoi(from)
	x.to, err2 = strconv.Atoi(to)
	if len(words) == 3 {
		x.dir = slices.Index(wayNames, words[1])
		x.cost, err3 = strconv.Atoi(words[2])
	}
	if err1 != nil || err2 != nil || err3 != nil || x.dir < 0 || len(words) == 2 {
		t.Fatalf("the test has a wrong edge: %s", text)
	}
	return x
}

// graphFrom reads "0>1, 2>0 west 5".
func graphFrom(t *testing.T, n int, text string) impl.Graph {
	t.Helper()
	var links []link
	for _, one := range strings.Split(text, ",") {
		if strings.TrimSpace(one) != "" {
			links = append(links, linkOf(t, one))
		}
	}
	return graphWith(n, links...)
}

func graphText(g impl.Graph) string {
	if g.N > 40 || len(g.To) > 40 {
		return fmt.Sprintf("%d cells, %d edges", g.N, len(g.To))
	}
	return fmt.Sprintf("%+v", g)
}

func sameGraph(a, b impl.Graph) bool {
	return a.N == b.N && slices.Equal(a.Start, b.Start) && slices.Equal(a.To, b.To) && slices.Equal(a.Dir, b.Dir) && slices.Equal(a.Cost, b.Cost)
}

func copyGraph(g impl.Graph) impl.Graph {
	g.Start, g.To, g.Dir, g.Cost = slices.Clone(g.Start), slices.Clone(g.To), slices.Clone(g.Dir), slices.Clone(g.Cost)
	return g
}

func wantValidGraph(g impl.Graph) bool {
	if g.N < 1 || g.N > 1600 || len(g.Start) != g.N+1 || g.Start[0] != 0 {
		return false
	}
	for i, s := range g.Start[1:] {
		if s < g.Start[i] {
			return false
		}
	}
	n := g.Start[g.N]
	if n > 6400 || n != len(g.To) || n != len(g.Dir) || n != len(g.Cost) {
		return false
	}
	for i := range n {
		if g.To[i] < 0 || g.To[i] > g.N-1 || g.Dir[i] < 0 || g.Dir[i] > 3 || g.Cost[i] < 1 || g.Cost[i] > 9 {
			return false
		}
	}
	return true
}

// wantBuild asks of each cell and each way whether it is one of the exits.
func wantBuild(l impl.Layout) (impl.Graph, int) {
	if !wantValidLayout(l) {
		return impl.Graph{}, impl.CodeBad
	}
	var links []link
	spots := spotsOf(l.W, l.H)
	for cell, at := range spots {
		for way := range 4 {
			if l.Exits[cell]/[]int{1, 2, 4, 8}[way]%2 == 1 {
				next := slices.Index(spots, at.toward(way))
				links = append(links, link{cell, next, way, l.Cost[next]})
			}
		}
	}
	return graphWith(l.W*l.H, links...), impl.CodeOK
}

func wantReverse(g impl.Graph) impl.Graph {
	var back []link
	for _, x := range linksOf(g) {
		back = append(back, link{x.to, x.from, x.dir, x.cost})
	}
	return graphWith(g.N, back...)
}

// wantReach takes in the ends of links until none is left that begins among them and ends elsewhere.
func wantReach(g impl.Graph, from []int) []bool {
	in := make([]bool, g.N)
	for _, cell := range from {
		in[cell] = true
	}
	links := linksOf(g)
	for grown := true; grown; {
		grown = false
		for _, x := range links {
			if in[x.from] && !in[x.to] {
				in[x.to], grown = true, true
			}
		}
		slices.Reverse(links)
	}
	return in
}

// leadsTo answers for each two cells whether one leads to the other, by way of cells that are let in one after another.
func leadsTo(g impl.Graph) [][]bool {
	lead := make([][]bool, g.N)
	for cell := range lead {
		lead[cell] = make([]bool, g.N)
		lead[cell][cell] = true
	}
	for _, x := range linksOf(g) {
		lead[x.from][x.to] = true
	}
	for through := range g.N {
		for a := range g.N {
			for b := range g.N {
				lead[a][b] = lead[a][b] || lead[a][through] && lead[through][b]
			}
		}
	}
	return lead
}

func wantComponents(g impl.Graph) []int {
	lead := leadsTo(g)
	var least []int
	for a := range g.N {
		for b := range g.N {
			if lead[a][b] && lead[b][a] {
				least = append(least, b)
				break
			}
		}
	}
	return least
}

func graphExtents(g impl.Graph) []extent {
	return []extent{extentOf(g.Start), extentOf(g.To), extentOf(g.Dir), extentOf(g.Cost)}
}

// inRow answers the links from each of the cells to the next one.
func inRow(cells ...int) []link {
	var links []link
	for i := 1; i < len(cells); i++ {
		links = append(links, link{cells[i-1], cells[i], i % 4, 1 + i%9})
	}
	return links
}

func inCircle(cells ...int) []link {
	return inRow(append(slices.Clone(cells), cells[0])...)
}

// span answers the numbers from one up or down to another.
func span(from, to int) []int {
	if from > to {
		down := span(to, from)
		slices.Reverse(down)
		return down
	}
	var all []int
	for n := from; n <= to; n++ {
		all = append(all, n)
	}
	return all
}

// graph makes a valid one, with clusters and with edges that stand in any order.
func (w surveyor) graph(cells, edges int) impl.Graph {
	n := 1 + w.r.Intn(cells)
	near := 1 + w.r.Intn(n)
	var links []link
	for range w.r.Intn(edges + 1) {
		from := w.r.Intn(n)
		to := w.r.Intn(n)
		if w.oneOf(2) {
			to = from / near * near
			to += w.r.Intn(min(near, n-to))
		}
		links = append(links, link{from, to, w.r.Intn(4), 1 + w.r.Intn(9)})
	}
	return graphWith(n, links...)
}
