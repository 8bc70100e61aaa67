package tests

import (
	"bytes"
	"fmt"
	"runtime"
	"slices"
	"strings"
	"sync"
	"testing"
	"time"

	"loop.example/s02126/impl"
)

// tablesOf answers BuildTables of a layout, which it wants to be as the document has it.
func tablesOf(t *testing.T, what string, l impl.Layout) impl.Tables {
	t.Helper()
	before := copyLayout(l)
	got, code := impl.BuildTables(l)
	want, wantCode := wantTables(l)
	if code != wantCode || !sameTables(got, want) {
		t.Errorf("BuildTables(%s): %s, %d, not %s, %d", what, tablesText(got), code, tablesText(want), wantCode)
	}
	if !sameLayout(l, before) {
		t.Errorf("BuildTables(%s) writes into the layout", what)
	}
	if code == impl.CodeOK {
		tablesGood(t, what, got)
	}
	return got
}

// asRoutes wants each row to be what Route answers for the layout's graph and the target's cell.
func asRoutes(t *testing.T, what string, l impl.Layout) {
	t.Helper()
	x := tablesOf(t, what, l)
	g, _ := impl.BuildGraph(l)
	for i, target := range l.Targets {
		dist, hop, code := impl.Route(g, target.Cell)
		if code != impl.CodeOK || !slices.Equal(x.Dist[i], dist) || !slices.Equal(x.Hop[i], hop) {
			t.Errorf("%s: target %d is %s, not %s", what, i, routeText(l.W, x.Dist[i], x.Hop[i]), routeText(l.W, dist, hop))
		}
	}
}

// tablesAs wants the layout that is declared so to have these rows, for each target in the order of their names.
func tablesAs(t *testing.T, text string, want ...string) {
	t.Helper()
	l := layoutOf(t, text)
	asRoutes(t, text, l)
	x, _ := impl.BuildTables(l)
	var got []string
	for i := range x.Targets {
		got = append(got, routeText(x.W, x.Dist[i], x.Hop[i]))
	}
	if !slices.Equal(got, want) || !slices.EqualFunc(x.Targets, l.Targets, sameTarget) || x.W != l.W || x.H != l.H {
		t.Errorf("%s: %s, not %s", text, strings.Join(got, "; "), strings.Join(want, "; "))
	}
}

func TestBuildTablesCases(t *testing.T) {
	// no target
	tablesAs(t, "grid 1 1")
	tablesAs(t, "grid 3 2; wall 1 0; zone 2 0 cost 9")
	tablesAs(t, "grid 2 2; wall 0 0 1 1")
	// one
	tablesAs(t, "grid 1 1; station a 0 0", "0")
	tablesAs(t, "grid 1 1; charger a 0 0; zone 0 0 cost 9", "0")
	tablesAs(t, "grid 3 1; station a 0 0", "0 1< 2<")
	tablesAs(t, "grid 1 3; charger a 0 2", "2v / 1v / 0")
	tablesAs(t, "grid 3 3; station a 1 1", "2> 1v 2v / 1> 0 1< / 2^ 1^ 2^")
	// costs are those of the cells to which a way leads, the target's own among them
	tablesAs(t, "grid 3 1; station a 0 0; zone 0 0 cost 7", "0 7< 8<")
	tablesAs(t, "grid 3 1; station a 0 0; zone 2 0 cost 7", "0 1< 2<")
	tablesAs(t, "grid 3 1; station a 0 0; zone 1 0 cost 7", "0 1< 8<")
	tablesAs(t, "grid 3 2; station a 2 0; zone 1 0 cost 4", "4v 1> 0 / 3> 2> 1^")
	tablesAs(t, "grid 3 2; station a 2 0; zone 1 0 cost 3", "4> 1> 0 / 3> 2> 1^")
	// several of both kinds, in the order of their names
	tablesAs(t, "grid 3 1; station b 0 0; charger a 2 0", "2> 1> 0", "0 1< 2<")
	tablesAs(t, "grid 3 1; charger c 1 0; charger a 2 0; station b 0 0", "2> 1> 0", "0 1< 2<", "1> 0 1<")
	tablesAs(t, "grid 2 2; station a 0 0; station b 1 0; charger c 0 1; charger d 1 1", "0 1< / 1^ 2^", "1> 0 / 2^ 1^", "1v 2v / 0 1<", "2> 1v / 1> 0")
	// from here no way leads to the target, from there one does
	tablesAs(t, "grid 3 1; lane 0 0 2 0 east; station a 0 0; station b 1 0; station c 2 0", "0 - -", "1> 0 -", "2> 1> 0")
	tablesAs(t, "grid 3 1; wall 1 0; station a 0 0; charger b 2 0", "0 - -", "- - 0")
	tablesAs(t, "grid 3 2; wall 1 0 1 1; station a 0 0; charger b 2 1", "0 - - / 1^ - -", "- - 1v / - - 0")
	tablesAs(t, "grid 3 1; bar 1 0 east; bar 1 0 west; station a 1 0; station b 0 0", "1> 0 1<", "0 - -")
	tablesAs(t, "grid 3 1; bar 0 0 east; bar 2 0 west; station a 1 0; station b 0 0", "- 0 -", "0 1< -")
	tablesAs(t, "grid 2 2; lane 0 0 east; lane 1 0 south; lane 1 1 west; lane 0 1 north; station a 0 0; charger b 1 1", "0 3v / 1^ 2<", "2> 1v / 3^ 0")
	// the document's example, and one with a slow zone
	tablesAs(t, "grid 4 3; wall 1 0 1 1; lane 0 2 3 2 east; station A1 3 0", "- - 1> 0 / - - 2^ 1^ / - - - -")
	tablesAs(t, "grid 4 2; wall 0 1; wall 2 1; zone 2 0 cost 3; station A 0 0; station B 3 0; charger C 3 1", "0 1< 2< 5< / - 2^ - 6^", "5> 4> 1> 0 / - 5^ - 1^", "6> 5> 2> 1v / - 6^ - 0")
}

func TestBuildTablesRefuses(t *testing.T) {
	change := []func(l *impl.Layout){
		func(l *impl.Layout) { *l = impl.Layout{} },
		func(l *impl.Layout) { l.W = 5 },
		func(l *impl.Layout) { l.W, l.H = 3, 4 },
		func(l *impl.Layout) { l.W, l.H = -4, -3 },
		func(l *impl.Layout) { l.W, l.H = 0, 0 },
		func(l *impl.Layout) { l.Cost = l.Cost[1:] },
		func(l *impl.Layout) { l.Exits = append(l.Exits, 0) },
		func(l *impl.Layout) { l.Exits = nil },
		func(l *impl.Layout) { l.Cost[0] = 10 },
		func(l *impl.Layout) { l.Cost[0] = -1 },
		func(l *impl.Layout) { l.Cost[0] = 0 },
		func(l *impl.Layout) { l.Exits[0] = 1 },
		func(l *impl.Layout) { l.Exits[0] = 2 },
		func(l *impl.Layout) { l.Exits[1] = 4 },
		func(l *impl.Layout) { l.Exits[11] = 16 },
		func(l *impl.Layout) { l.Targets[0].Name = nil },
		func(l *impl.Layout) { l.Targets[0].Name = []byte("z") },
		func(l *impl.Layout) { l.Targets[1].Name = []byte("\xff") },
		func(l *impl.Layout) { l.Targets[2].Name = bytes.Repeat([]byte("z"), 61) },
		func(l *impl.Layout) { l.Targets[0].Kind = 2 },
		func(l *impl.Layout) { l.Targets[0].Kind = -1 },
		func(l *impl.Layout) { l.Targets[0].Cell = 1 },
		func(l *impl.Layout) { l.Targets[0].Cell = 12 },
		func(l *impl.Layout) { l.Targets[0].Cell = -1 },
		func(l *impl.Layout) { l.Targets[0].Cell = l.Targets[2].Cell },
	}
	for i, change := range change {
		l := layoutOf(t, crowded)
		tablesOf(t, "the layout as it is", l)
		change(&l)
		if x, code := impl.BuildTables(l); code != impl.CodeBad || !sameTables(x, impl.Tables{}) {
			t.Errorf("change %d: %s, %d", i, tablesText(x), code)
		}
	}
	most := mostTargets()
	most.Targets = append(most.Targets, target("~~", 0, 1))
	if x, code := impl.BuildTables(most); code != impl.CodeBad || !sameTables(x, impl.Tables{}) {
		t.Errorf("one target more: %s, %d", tablesText(x), code)
	}
}

// mostTargets has as many cells and targets as a layout can have.
func mostTargets() impl.Layout {
	l := openLayout(40, 40)
	for cell := range l.Cost {
		l.Cost[cell] = 1 + cell*cell%9
	}
	for i := range 30 {
		l.Targets = append(l.Targets, impl.Target{Name: bytes.Repeat([]byte{byte('A' + i)}, 60), Kind: i % 2, Cell: 1599 - 53*i})
	}
	return l
}

func TestBuildTablesOfMostTargets(t *testing.T) {
	asRoutes(t, "the most targets", mostTargets())
	shut := mostTargets()
	clear(shut.Exits)
	asRoutes(t, "the most targets, shut", shut)
	small := openLayout(6, 5)
	for cell := range 30 {
		small.Targets = append(small.Targets, target(string(rune('A'+cell)), cell/15, 29-cell))
	}
	asRoutes(t, "a target on each cell", small)
	for n := range 30 {
		l := mostTargets()
		l.Targets = l.Targets[:n]
		x, code := impl.BuildTables(l)
		if code != impl.CodeOK || len(x.Targets) != n || len(x.Dist) != n || len(x.Hop) != n {
			t.Errorf("%d targets: %s, %d", n, tablesText(x), code)
		}
	}
}

// One row that winds through a floor of the greatest size, in which each cell has the greatest cost.
func TestBuildTablesOfTheLongestWay(t *testing.T) {
	l := impl.Layout{W: 40, H: 40, Cost: slices.Repeat([]int{9}, 1600), Exits: make([]int, 1600)}
	for cell, at := range spotsOf(40, 40) {
		switch {
		case at.y%2 == 0 && at.x < 39:
			l.Exits[cell] = 2
		case at.y%2 == 1 && at.x > 0:
			l.Exits[cell] = 8
		case at.y < 39:
			l.Exits[cell] = 4
		}
	}
	l.Targets = []impl.Target{target("end", 0, 39*40), target("start", 1, 0)}
	asRoutes(t, "a row that winds", l)
	x, _ := impl.BuildTables(l)
	if x.Dist[0][0] != 1599*9 || slices.Max(x.Dist[1]) != 0 || slices.Max(x.Hop[1]) != -1 {
		t.Errorf("%d, %d", x.Dist[0][0], slices.Max(x.Dist[1]))
	}
}

func TestBuildTablesOfAllSmallLayouts(t *testing.T) {
	for n := range 4 * 4 * 4 * 4 * 3 {
		costs := []int{n % 4, n / 4 % 4, n / 16 % 4, n / 64 % 4}
		w := []int{1, 2, 4}[n/256]
		l := impl.Layout{W: w, H: 4 / w, Cost: costs, Exits: make([]int, 4)}
		for cell, at := range spotsOf(l.W, l.H) {
			if l.Cost[cell] == 0 {
				continue
			}
			for _, way := range leading(l, at) {
				l.Exits[cell] += 1 << way
			}
			l.Targets = append(l.Targets, target(string(rune('a'+cell)), cell%2, cell))
		}
		asRoutes(t, fmt.Sprint(l), l)
		if t.Failed() {
			return
		}
	}
}

func TestBuildTablesOfMadeLayouts(t *testing.T) {
	lost, found := 0, 0
	for seed := range int64(1500) {
		l := newSurveyor(220000 + seed).layout(7)
		asRoutes(t, fmt.Sprint(l), l)
		x, _ := impl.BuildTables(l)
		for _, list := range x.Dist {
			for _, dist := range list {
				if dist < 0 {
					lost++
				} else if dist > 0 {
					found++
				}
			}
		}
		if t.Failed() {
			return
		}
	}
	if lost < 10000 || found < 10000 {
		t.Errorf("%d cells with a way, %d without: too few of one sort", found, lost)
	}
	for seed := range int64(10) {
		l := newSurveyor(229000 + seed).layout(40)
		asRoutes(t, fmt.Sprint("seed ", seed), l)
	}
}

// The answer does not hang on how the routes come to be made, whether calls come one by one or at once.
func TestBuildTablesAnswersTheSameEachTime(t *testing.T) {
	layouts := []impl.Layout{mostTargets(), layoutOf(t, crowded), openLayout(3, 3)}
	var wants []impl.Tables
	for _, l := range layouts {
		want, _ := wantTables(l)
		wants = append(wants, want)
	}
	for range 30 {
		for i, l := range layouts {
			if x, code := impl.BuildTables(l); code != impl.CodeOK || !sameTables(x, wants[i]) {
				t.Fatalf("layout %d: %s, %d", i, tablesText(x), code)
			}
		}
	}
	var calls sync.WaitGroup
	for n := range 24 {
		calls.Go(func() {
			i := n % len(layouts)
			if x, code := impl.BuildTables(layouts[i]); code != impl.CodeOK || !sameTables(x, wants[i]) {
				t.Errorf("at once, layout %d: %s, %d", i, tablesText(x), code)
			}
		})
	}
	calls.Wait()
}

func TestBuildTablesLeavesNothingRunning(t *testing.T) {
	before := runtime.NumGoroutine()
	for range 20 {
		impl.BuildTables(mostTargets())
	}
	for range 500 {
		if runtime.NumGoroutine() <= before {
			return
		}
		time.Sleep(10 * time.Millisecond)
	}
	t.Errorf("%d goroutines were there, now there are %d", before, runtime.NumGoroutine())
}

func TestBuildTablesIsNewMemory(t *testing.T) {
	for _, text := range []string{"grid 1 1", "grid 1 1; station a 0 0", "grid 2 1; wall 1 0; charger c 0 0", crowded} {
		plain := layoutOf(t, text)
		l := roomyLayout(plain)
		first, code := impl.BuildTables(l)
		second, _ := impl.BuildTables(l)
		n, m := len(l.Cost), len(l.Targets)
		if code != impl.CodeOK || !sameLayout(l, plain) || l.Cost[:n+1][n] != 7 || l.Exits[:n+1][n] != 7 || l.Targets[:m+1][m].Cell != 7 {
			t.Fatalf("%s: %d, %v", text, code, l)
		}
		for _, x := range l.Targets {
			behindName(t, text, x.Name)
		}
		shareNone(t, text, slices.Concat(layoutExtents(l), tablesExtents(first), tablesExtents(second)))
		wipe(l)
		wipeTables(first)
		if want, _ := wantTables(plain); !sameTables(second, want) {
			t.Errorf("%s: the tables hang on the layout or on another answer", text)
		}
		tablesOf(t, text+" again", plain)
	}
}
