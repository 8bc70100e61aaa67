package tests

import (
	"fmt"
	"slices"
	"strconv"
	"strings"
	"testing"

	"loop.example/s02126/impl"
)

// wantRoute lets each edge shorten the ways that end with another one, until none does so any more.
func wantRoute(g impl.Graph, target int) ([]int, []int) {
	const far = 1 << 40
	dist := slices.Repeat([]int{far}, g.N)
	dist[target] = 0
	links := linksOf(g)
	for shortened := true; shortened; {
		shortened = false
		for _, x := range links {
			if way := x.cost + dist[x.to]; way < dist[x.from] {
				dist[x.from], shortened = way, true
			}
		}
		slices.Reverse(links)
	}
	hop := slices.Repeat([]int{-1}, g.N)
	for _, x := range links {
		if dist[x.from] < far && x.cost+dist[x.to] == dist[x.from] && (hop[x.from] == -1 || hop[x.from] > x.dir) {
			hop[x.from] = x.dir
		}
	}
	for cell := range dist {
		if dist[cell] == far {
			dist[cell] = -1
		}
	}
	return dist, hop
}

// trek is a way in full: its length, and its first edge's Dir.
type trek struct{ length, dir int }

// treksFrom answers all ways from a cell to the target that come to no cell twice. No other can be one of the shortest.
func treksFrom(g impl.Graph, cell, target int, been ...int) []trek {
	if cell == target {
		return []trek{{0, -1}}
	}
	var all []trek
	for _, x := range linksOf(g) {
		if x.from == cell && x.to != cell && !slices.Contains(been, x.to) {
			for _, rest := range treksFrom(g, x.to, target, append(slices.Clone(been), cell)...) {
				all = append(all, trek{x.cost + rest.length, x.dir})
			}
		}
	}
	return all
}

// plainRoute looks through all ways of a small graph.
func plainRoute(g impl.Graph, target int) ([]int, []int) {
	var dist, hop []int
	for cell := range g.N {
		all := treksFrom(g, cell, target)
		slices.SortFunc(all, func(a, b trek) int { return (a.length-b.length)*10 + a.dir - b.dir })
		best := append(all, trek{-1, -1})[0]
		dist, hop = append(dist, best.length), append(hop, best.dir)
	}
	return dist, hop
}

func wantTables(l impl.Layout) (impl.Tables, int) {
	g, code := wantBuild(l)
	if code != impl.CodeOK {
		return impl.Tables{}, code
	}
	want := impl.Tables{W: l.W, H: l.H}
	for _, x := range l.Targets {
		dist, hop := wantRoute(g, x.Cell)
		want.Targets, want.Dist, want.Hop = append(want.Targets, x), append(want.Dist, dist), append(want.Hop, hop)
	}
	return want, impl.CodeOK
}

func wantValidTables(x impl.Tables) bool {
	if x.W < 1 || x.W > 40 || x.H < 1 || x.H > 40 || len(x.Dist) != len(x.Targets) || len(x.Hop) != len(x.Targets) {
		return false
	}
	open := impl.Layout{Cost: slices.Repeat([]int{1}, x.W*x.H), Targets: x.Targets}
	if !wantTargets(open) {
		return false
	}
	spots := spotsOf(x.W, x.H)
	for i := range x.Targets {
		if len(x.Dist[i]) != len(spots) || len(x.Hop[i]) != len(spots) {
			return false
		}
		for cell, at := range spots {
			if !wantStep(x, i, cell, at) {
				return false
			}
		}
	}
	return true
}

func wantStep(x impl.Tables, i, cell int, at spot) bool {
	dist, hop := x.Dist[i][cell], x.Hop[i][cell]
	if x.Targets[i].Cell == cell {
		return dist == 0 && hop == -1
	}
	if dist == -1 && hop == -1 {
		return true
	}
	if dist < 1 || dist > 65534 || !slices.Contains([]int{0, 1, 2, 3}, hop) {
		return false
	}
	next := at.toward(hop)
	if !next.isWithin(x.W, x.H) {
		return false
	}
	left := x.Dist[i][next.y*x.W+next.x]
	return left >= 0 && left < dist
}

func wantNearest(x impl.Tables, kind, cell int) (int, int) {
	if !wantValidTables(x) || kind < 0 || kind > 1 || cell < 0 || cell >= x.W*x.H {
		return 0, impl.CodeBad
	}
	for dist := range 65535 {
		for i := range x.Targets {
			if x.Targets[i].Kind == kind && x.Dist[i][cell] == dist {
				return i, impl.CodeOK
			}
		}
		if dist > 0 && !slices.ContainsFunc(x.Dist, func(list []int) bool { return list[cell] >= dist }) {
			break
		}
	}
	return 0, impl.CodeLost
}

const arrows = "^>v<"

// stepText shows a cell as its distance and where its hop leads: "7>", "0" for the target, "-" where there is no way.
func stepText(dist, hop int) string {
	switch {
	case dist == -1 && hop == -1:
		return "-"
	case hop == -1:
		return strconv.Itoa(dist)
	case hop < 0 || hop > 3:
		return fmt.Sprint(dist, "?", hop)
	}
	return strconv.Itoa(dist) + arrows[hop:hop+1]
}

// routeText shows rows of w cells as "7> 3v 0 / - 4^ -".
func routeText(w int, dist, hop []int) string {
	if len(dist) != len(hop) {
		return fmt.Sprint(len(dist), " distances but ", len(hop), " hops")
	}
	if len(dist) > 100 {
		return fmt.Sprint(routeText(w, dist[:3], hop[:3]), " and ", len(dist)-3, " more")
	}
	var out []string
	for cell := range dist {
		if cell > 0 && cell%w == 0 {
			out = append(out, "/")
		}
		out = append(out, stepText(dist[cell], hop[cell]))
	}
	return strings.Join(out, " ")
}

// tablesFrom reads tables from rows for each target, as "S 2> 1> 0 / - - -" for a station or with C for a charger.
// Their names are a, b, c and so on.
func tablesFrom(t *testing.T, routes ...string) impl.Tables {
	t.Helper()
	var x impl.Tables
	for i, route := range routes {
		words := strings.Fields(route)
		rows := strings.Split(strings.Join(words[1:], " "), " / ")
		x.W, x.H = len(strings.Fields(rows[0])), len(rows)
		var dist, hop []int
		at := -1
		for _, word := range strings.Fields(strings.Join(rows, " ")) {
			n, way := -1, -1
			if word != "-" {
				var err error
				way = strings.Index(arrows, word[len(word)-1:])
				if n, err = strconv.Atoi(strings.TrimRight(word, arrows)); err != nil {
					t.Fatalf("the test has a wrong word: %s", word)
				}
			}
			if n == 0 && way < 0 {
				at = len(dist)
			}
			dist, hop = append(dist, n), append(hop, way)
		}
		x.Targets = append(x.Targets, target(string(rune('a'+i)), strings.Index("SC", words[0]), at))
		x.Dist, x.Hop = append(x.Dist, dist), append(x.Hop, hop)
	}
	return x
}

func tablesText(x impl.Tables) string {
	if x.W > 40 || x.H > 40 || x.W < 1 || x.H < 1 || x.W*x.H*len(x.Targets) > 100 {
		return fmt.Sprintf("%d by %d, %d targets, %d and %d lists", x.W, x.H, len(x.Targets), len(x.Dist), len(x.Hop))
	}
	return fmt.Sprintf("%+v", x)
}

func sameTables(a, b impl.Tables) bool {
	return a.W == b.W && a.H == b.H && slices.EqualFunc(a.Targets, b.Targets, sameTarget) &&
		slices.EqualFunc(a.Dist, b.Dist, slices.Equal) && slices.EqualFunc(a.Hop, b.Hop, slices.Equal)
}

func copyLists(lists [][]int) [][]int {
	out := slices.Clone(lists)
	for i, list := range out {
		out[i] = slices.Clone(list)
	}
	return out
}

// copyTables answers the same tables in memory of their own.
func copyTables(x impl.Tables) impl.Tables {
	x.Targets = copyLayout(impl.Layout{Targets: x.Targets}).Targets
	x.Dist, x.Hop = copyLists(x.Dist), copyLists(x.Hop)
	return x
}

func tablesExtents(x impl.Tables) []extent {
	all := append(layoutExtents(impl.Layout{Targets: x.Targets}), extentOf(x.Dist), extentOf(x.Hop))
	for _, list := range slices.Concat(x.Dist, x.Hop) {
		all = append(all, extentOf(list))
	}
	return all
}

func wipeTables(x impl.Tables) {
	wipe(impl.Layout{Targets: x.Targets})
	for _, list := range slices.Concat(x.Dist, x.Hop) {
		clear(list[:cap(list)])
	}
	clear(x.Dist)
	clear(x.Hop)
}

// tables makes valid ones, which need not be those of any layout: each cell hangs on one that is next to it.
func (w surveyor) tables(most int) impl.Tables {
	l := impl.Layout{W: 1 + w.r.Intn(most), H: 1 + w.r.Intn(most)}
	l.Cost = slices.Repeat([]int{1}, l.W*l.H)
	w.placeTargets(&l)
	x := impl.Tables{W: l.W, H: l.H, Targets: l.Targets}
	for _, target := range x.Targets {
		dist, hop := w.stepsTo(l, target.Cell)
		x.Dist, x.Hop = append(x.Dist, dist), append(x.Hop, hop)
	}
	return x
}

func (w surveyor) stepsTo(l impl.Layout, target int) ([]int, []int) {
	dist, hop := slices.Repeat([]int{-1}, len(l.Cost)), slices.Repeat([]int{-1}, len(l.Cost))
	dist[target] = 0
	spots := spotsOf(l.W, l.H)
	for range 3 * len(spots) {
		cell := w.r.Intn(len(spots))
		ways := leading(l, spots[cell])
		if dist[cell] >= 0 || len(ways) == 0 {
			continue
		}
		way := pick(w.r, ways...)
		next := dist[slices.Index(spots, spots[cell].toward(way))]
		if more := pick(w.r, 1, 1, 1, 2, 9, 300, 65534-next); next >= 0 && next+more <= 65534 && more > 0 {
			dist[cell], hop[cell] = next+more, way
		}
	}
	return dist, hop
}
