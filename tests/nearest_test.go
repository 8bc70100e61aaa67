package tests

import (
	"fmt"
	"slices"
	"testing"

	"loop.example/s02126/impl"
)

// nearestIs wants Nearest to answer so, and the document to have it so.
func nearestIs(t *testing.T, x impl.Tables, kind, cell, want, code int) {
	t.Helper()
	if i, wantCode := wantNearest(x, kind, cell); i != want || wantCode != code {
		t.Errorf("%s, kind %d, cell %d: the test has it wrong: %d, %d", tablesText(x), kind, cell, i, wantCode)
	}
	before := copyTables(x)
	if i, got := impl.Nearest(x, kind, cell); i != want || got != code {
		t.Errorf("Nearest(%s, %d, %d): %d, %d, not %d, %d", tablesText(x), kind, cell, i, got, want, code)
	}
	if !sameTables(x, before) {
		t.Errorf("Nearest(%s, %d, %d) writes into the tables", tablesText(before), kind, cell)
	}
}

// nearestAs names for each cell the nearest station and charger, with - where there is none.
func nearestAs(t *testing.T, stations, chargers string, routes ...string) {
	t.Helper()
	x := tablesFrom(t, routes...)
	for kind, names := range []string{stations, chargers} {
		for cell, name := range names {
			if name == '-' {
				nearestIs(t, x, kind, cell, 0, impl.CodeLost)
			} else {
				nearestIs(t, x, kind, cell, int(name-'a'), impl.CodeOK)
			}
		}
		if len(names) != x.W*x.H {
			t.Errorf("the test has it wrong: %s", names)
		}
	}
}

func TestNearestCases(t *testing.T) {
	nearestAs(t, "a", "-", "S 0")
	nearestAs(t, "-", "a", "C 0")
	nearestAs(t, "aaa", "---", "S 0 1< 2<")
	nearestAs(t, "---", "aaa", "C 2> 1> 0")
	// the least Dist, wherever it stands
	nearestAs(t, "aabb", "----", "S 0 1< 2< 3<", "S 3> 2> 1> 0")
	nearestAs(t, "bbaa", "----", "S 3> 2> 1> 0", "S 0 1< 2< 3<")
	nearestAs(t, "abc", "---", "S 0 1< 2<", "S 1> 0 1<", "S 2> 1> 0")
	nearestAs(t, "cba", "---", "S 2> 1> 0", "S 1> 0 1<", "S 0 1< 2<")
	// of several the first
	nearestAs(t, "aab", "---", "S 0 1< 2<", "S 2> 1> 0")
	nearestAs(t, "baa", "---", "S 2> 1> 0", "S 0 1< 2<")
	nearestAs(t, "abab", "----", "S 0 1< / 1^ 2^", "S 1> 0 / 2^ 1^")
	nearestAs(t, "abcb", "----", "S 0 1< / 1^ 2^", "S 1> 0 / 2^ 1^", "S 1v 2v / 0 1<")
	nearestAs(t, "abca", "----", "S 0 1< / 1^ 2^", "S 1> 0 / 2^ 2^", "S 1v 2< / 0 3<")
	// the other kind plays no part, not even where it is nearer or stands on the cell
	nearestAs(t, "bbb", "aaa", "C 0 1< 2<", "S 2> 1> 0")
	nearestAs(t, "aaa", "bbb", "S 0 1< 2<", "C 2> 1> 0")
	nearestAs(t, "aacc", "bbbb", "S 0 1< 2< 3<", "C 1> 0 1< 2<", "S 3> 2> 1> 0")
	nearestAs(t, "bbbb", "aacc", "C 0 1< 2< 3<", "S 1> 0 1< 2<", "C 3> 2> 1> 0")
	// no way to any, to the first, to the nearest
	nearestAs(t, "a--", "---", "S 0 - -")
	nearestAs(t, "a-b", "---", "S 0 - -", "S - - 0")
	nearestAs(t, "aab", "---", "S 0 1< -", "S - - 0")
	nearestAs(t, "abb", "---", "S 0 - -", "S 2> 1> 0")
	nearestAs(t, "baa", "---", "S 2> 1> 0", "S 0 - -")
	nearestAs(t, "a--", "bbb", "S 0 - -", "C 2> 1> 0")
	nearestAs(t, "--b", "aa-", "C 0 1< -", "S - - 0")
	// great distances
	nearestAs(t, "aab", "---", "S 0 65534< -", "S - - 0")
	nearestAs(t, "abb", "---", "S 0 65534< -", "S 65534> 65533> 0")
	nearestAs(t, "aab", "---", "S 0 65533< 65534<", "S - 65534> 0")
	nearestAs(t, "bba", "---", "S - 65534> 0", "S 0 300< 301<")
}

func TestNearestRefuses(t *testing.T) {
	for _, x := range []impl.Tables{tablesFrom(t, "S 0"), tablesFrom(t, "S 0 1< 2< / 1^ 2^ 3^"), tablesFrom(t, "S 0 1< 2<", "C 2> 1> 0"), plainTables(3, 2, 0), plainTables(40, 40, 30), plainTables(1, 40, 2)} {
		last := x.W*x.H - 1
		for _, cell := range append([]int{last + 1, last + 2, -2, -last - 1, 1600, 65535}, extremes...) {
			for kind := -1; kind <= 2; kind++ {
				nearestIs(t, x, kind, cell, 0, impl.CodeBad)
			}
		}
		for _, kind := range append([]int{2, 3, 14, 15, 256, 257, -2}, extremes...) {
			nearestIs(t, x, kind, 0, 0, impl.CodeBad)
			nearestIs(t, x, kind, last, 0, impl.CodeBad)
		}
		for kind := range 2 {
			for _, cell := range []int{0, last} {
				i, code := wantNearest(x, kind, cell)
				if code == impl.CodeBad {
					t.Errorf("%s, kind %d, cell %d: the test has it wrong", tablesText(x), kind, cell)
				}
				nearestIs(t, x, kind, cell, i, code)
			}
		}
	}
}

// Tables that are not valid are refused for what cells and kinds they may be asked, also if the fault is far from there.
func TestNearestRefusesTablesThatAreNotValid(t *testing.T) {
	for i, change := range []func(x *impl.Tables){
		func(x *impl.Tables) { *x = impl.Tables{} },
		func(x *impl.Tables) { x.W = 2 },
		func(x *impl.Tables) { x.W, x.H = 1, 3 },
		func(x *impl.Tables) { x.H = 0 },
		func(x *impl.Tables) { x.Targets[1].Name = nil },
		func(x *impl.Tables) { x.Targets[1].Name = []byte("A") },
		func(x *impl.Tables) { x.Targets[1].Kind = 2 },
		func(x *impl.Tables) { x.Targets[1].Cell = 1 },
		func(x *impl.Tables) { x.Targets[1].Cell = 3 },
		func(x *impl.Tables) { x.Targets = x.Targets[:1] },
		func(x *impl.Tables) { x.Dist = x.Dist[:1] },
		func(x *impl.Tables) { x.Hop = nil },
		func(x *impl.Tables) { x.Dist[1] = nil },
		func(x *impl.Tables) { x.Hop[1] = x.Hop[1][:2] },
		func(x *impl.Tables) { x.Dist[1][0] = 1 },
		func(x *impl.Tables) { x.Dist[1][0] = 65535 },
		func(x *impl.Tables) { x.Dist[1][2] = 1 },
		func(x *impl.Tables) { x.Hop[1][2] = 0 },
		func(x *impl.Tables) { x.Hop[1][0] = -1 },
		func(x *impl.Tables) { x.Hop[1][0] = 4 },
		func(x *impl.Tables) { x.Hop[1][0] = 3 },
	} {
		x := tablesFrom(t, "S 0 1< 2<", "C 2> 1> 0")
		tablesGood(t, "as they are", x)
		change(&x)
		for kind := range 2 {
			for cell := range 3 {
				if nearest, code := impl.Nearest(x, kind, cell); nearest != 0 || code != impl.CodeBad {
					t.Errorf("change %d, kind %d, cell %d: %d, %d", i, kind, cell, nearest, code)
				}
			}
		}
		tablesBad(t, fmt.Sprint("change ", i), x)
	}
}

// Each target is the nearest of its kind from its own cell.
func TestNearestOfTheTargetsCell(t *testing.T) {
	for _, x := range []impl.Tables{tablesOf(t, "most", mostTargets()), plainTables(40, 40, 30), tablesOf(t, crowded, layoutOf(t, crowded))} {
		for i, target := range x.Targets {
			nearestIs(t, x, target.Kind, target.Cell, i, impl.CodeOK)
		}
	}
}

func TestNearestOfAllSmallTables(t *testing.T) {
	// three targets on other cells, with each Dist from the fourth cell, and of each kind
	dists := []int{-1, 1, 2, 3}
	for n := range 4 * 4 * 4 * 8 {
		x := plainTables(3, 2, 0)
		for i, at := range []int{0, 2, 4} { // all of them are next to cell 1
			dist, hop := slices.Repeat([]int{-1}, 6), slices.Repeat([]int{-1}, 6)
			dist[at] = 0
			if far := dists[n>>(2*i)%4]; far > 0 {
				dist[1], hop[1] = far, []int{impl.West, impl.East, impl.South}[i]
			}
			x.Targets = append(x.Targets, target(string(rune('a'+i)), n>>(6+i)%2, at))
			x.Dist, x.Hop = append(x.Dist, dist), append(x.Hop, hop)
		}
		tablesGood(t, tablesText(x), x)
		for kind := range 2 {
			for cell := range 6 {
				want, code := wantNearest(x, kind, cell)
				nearestIs(t, x, kind, cell, want, code)
			}
		}
	}
}

func TestNearestInMadeTables(t *testing.T) {
	counts := map[int]int{}
	ties := 0
	for seed := range int64(1500) {
		w := newSurveyor(240000 + seed)
		var x impl.Tables
		switch seed % 3 {
		case 0:
			x = w.tables(5)
		case 1:
			x, _ = impl.BuildTables(w.layout(5))
		case 2:
			l := openLayout(1+w.r.Intn(5), 1+w.r.Intn(5))
			w.placeTargets(&l)
			x, _ = impl.BuildTables(l)
		}
		for cell := range x.W * x.H {
			for kind := -1; kind <= 2; kind++ {
				want, code := wantNearest(x, kind, cell)
				nearestIs(t, x, kind, cell, want, code)
				counts[code]++
				if code == impl.CodeOK && isTied(x, want, cell) {
					ties++
				}
			}
		}
		if t.Failed() {
			return
		}
	}
	if counts[impl.CodeOK] < 5000 || counts[impl.CodeLost] < 5000 || ties < 1000 {
		t.Errorf("%v, %d of them with another as near: too few of one sort", counts, ties)
	}
}

// isTied tells whether another target of the kind is as near.
func isTied(x impl.Tables, nearest, cell int) bool {
	for i, target := range x.Targets {
		if i != nearest && target.Kind == x.Targets[nearest].Kind && x.Dist[i][cell] == x.Dist[nearest][cell] {
			return true
		}
	}
	return false
}
