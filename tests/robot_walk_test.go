package tests

import (
	"bytes"
	"fmt"
	"slices"
	"strings"
	"testing"

	"loop.example/s02126/impl"
)

// findIs wants FindTarget to answer so, and the document to have it so.
func findIs(t *testing.T, x impl.Tables, name string, want int) {
	t.Helper()
	if n := wantFind(x, name); n != want {
		t.Errorf("%s, %q: the test has it wrong: %d", tablesText(x), name, n)
	}
	before, given := copyTables(x), []byte(name)
	if got := impl.FindTarget(x, given); got != want {
		t.Errorf("FindTarget(%s, %q): %d, not %d", tablesText(x), name, got, want)
	}
	if !sameTables(x, before) || string(given) != name {
		t.Errorf("FindTarget(%s, %q) writes into what it is given", tablesText(before), name)
	}
}

func renamed(x impl.Tables, names ...string) impl.Tables {
	x = copyTables(x)
	for i, name := range names {
		x.Targets[i].Name = []byte(name)
	}
	return x
}

func TestFindTargetCases(t *testing.T) {
	one := renamed(plainTables(2, 2, 1), "dock")
	findIs(t, one, "dock", 0)
	for _, name := range []string{"", "d", "doc", "docks", "dock ", " dock", "Dock", "dock\x00", "ock", "k", "dockdock"} {
		findIs(t, one, name, -1)
	}
	// names that are the heads of others
	three := renamed(plainTables(3, 2, 3), "a", "ab", "abc")
	for name, want := range map[string]int{"a": 0, "ab": 1, "abc": 2, "abcd": -1, "": -1, "b": -1, "bc": -1, "A": -1, "ac": -1, "aa": -1, "\x00": -1} {
		findIs(t, three, name, want)
	}
	gap := renamed(plainTables(3, 2, 2), "a", "abc")
	for name, want := range map[string]int{"a": 0, "ab": -1, "abc": 1, "abcd": -1} {
		findIs(t, gap, name, want)
	}
	odd := renamed(plainTables(3, 2, 5), "\x00", "\n\"", "z", "å", "😀")
	for name, want := range map[string]int{"\x00": 0, "\n\"": 1, "z": 2, "å": 3, "😀": 4, "\n": -1, "\"": -1, "\xc3": -1, "\x00\x00": -1, "\xf0\x9f\x98": -1, "Å": -1} {
		findIs(t, odd, name, want)
	}
	for _, none := range []impl.Tables{plainTables(1, 1, 0), plainTables(40, 40, 0)} {
		for _, name := range []string{"", "a", "A", "\x00"} {
			findIs(t, none, name, -1)
		}
	}
	if impl.FindTarget(one, nil) != -1 || impl.FindTarget(plainTables(1, 1, 0), nil) != -1 {
		t.Error("a nil Name is found")
	}
}

func TestFindTargetOfMostTargets(t *testing.T) {
	long := plainTables(40, 40, 30)
	for i := range long.Targets {
		long.Targets[i].Name = append(bytes.Repeat([]byte("n"), 59), byte('A'+i))
	}
	for _, x := range []impl.Tables{plainTables(40, 40, 30), plainTables(6, 5, 30), long} {
		for i, target := range x.Targets {
			name := string(target.Name)
			findIs(t, x, name, i)
			findIs(t, x, name[:len(name)-1], -1)
			findIs(t, x, name[1:], -1)
			findIs(t, x, name+"n", -1)
			findIs(t, x, name+name, -1)
			findIs(t, x, strings.ToLower(name)+"\x00", -1)
		}
		findIs(t, x, "", -1)
		findIs(t, x, string(bytes.Repeat([]byte("n"), 5000)), -1)
	}
}

func TestFindTargetInMadeTables(t *testing.T) {
	found, missed := 0, 0
	for seed := range int64(500) {
		w := newSurveyor(300000 + seed)
		x := w.tables(4)
		for range 12 {
			name := string(w.name())
			if w.oneOf(4) {
				name += string(w.name())
			}
			want := wantFind(x, name)
			findIs(t, x, name, want)
			if want < 0 {
				missed++
			} else {
				found++
			}
		}
	}
	if found < 500 || missed < 500 {
		t.Errorf("%d are found, %d are not: too few of one sort", found, missed)
	}
}

func TestFindTargetRefusesTablesThatAreNotValid(t *testing.T) {
	for _, x := range faultyTables(t) {
		for _, name := range []string{"a", "b", "c", "", "d"} {
			findIs(t, x.tables, name, -1)
		}
		for _, target := range x.tables.Targets {
			findIs(t, x.tables, string(target.Name), -1)
		}
	}
}

// nextIs wants Next to answer so, and the document to have it so.
func nextIs(t *testing.T, x impl.Tables, target, cell, want, code int) {
	t.Helper()
	if next, wantCode := wantNext(x, target, cell); next != want || wantCode != code {
		t.Errorf("%s, target %d, cell %d: the test has it wrong: %d, %d", tablesText(x), target, cell, next, wantCode)
	}
	before := copyTables(x)
	if next, got := impl.Next(x, target, cell); next != want || got != code {
		t.Errorf("Next(%s, %d, %d): %d, %d, not %d, %d", tablesText(x), target, cell, next, got, want, code)
	}
	if !sameTables(x, before) {
		t.Errorf("Next(%s, %d, %d) writes into the tables", tablesText(before), target, cell)
	}
}

// nextAs has for each cell the one to which Next leads, -1 at the target's cell, -2 where no way leads there.
func nextAs(t *testing.T, route string, want ...int) {
	t.Helper()
	x := tablesFrom(t, route)
	if len(want) != x.W*x.H {
		t.Errorf("the test has it wrong: %s", route)
	}
	for cell, next := range want {
		switch next {
		case -1:
			nextIs(t, x, 0, cell, cell, impl.CodeEnd)
		case -2:
			nextIs(t, x, 0, cell, cell, impl.CodeLost)
		default:
			nextIs(t, x, 0, cell, next, impl.CodeOK)
		}
	}
}

func TestNextCases(t *testing.T) {
	nextAs(t, "S 0", -1)
	nextAs(t, "S 0 -", -1, -2)
	nextAs(t, "C - 0", -2, -1)
	nextAs(t, "S 0 1< 2< 3<", -1, 0, 1, 2)
	nextAs(t, "S 3> 2> 1> 0", 1, 2, 3, -1)
	nextAs(t, "S 2> 1> 0 1< -", 1, 2, -1, 2, -2)
	nextAs(t, "S 0 / 1^ / 2^", -1, 0, 1)
	nextAs(t, "C 2v / 1v / 0", 1, 2, -1)
	nextAs(t, "C - / 1v / 0 / 1^ / -", -2, 2, -1, 2, -2)
	nextAs(t, "S - 1v - / 1> 0 1< / - 1^ -", -2, 4, -2, 4, -1, 4, -2, 4, -2)
	nextAs(t, "S 0 5v / 1^ 4<", -1, 3, 0, 2)
	// great distances, and steps that are not those of any least way
	nextAs(t, "S 0 65534<", -1, 0)
	nextAs(t, "S 0 65532v 65533< / 1^ 900< 65534^", -1, 4, 1, 0, 3, 2)
	// each target has steps of its own
	x := tablesFrom(t, "S 0 1< 2<", "C 2> 1> 0", "S 7> 0 -")
	for target, nexts := range [][]int{{0, 0, 1}, {1, 2, 2}, {1, 1, 2}} {
		codes := [][]int{{impl.CodeEnd, impl.CodeOK, impl.CodeOK}, {impl.CodeOK, impl.CodeOK, impl.CodeEnd}, {impl.CodeOK, impl.CodeEnd, impl.CodeLost}}[target]
		for cell, next := range nexts {
			nextIs(t, x, target, cell, next, codes[cell])
		}
	}
}

// cornersAnd has targets in all corners and near the middle.
func cornersAnd(w, h int) impl.Layout {
	l := openLayout(w, h)
	for cell := range l.Cost {
		l.Cost[cell] = 1 + cell*cell%9
	}
	var cells []int
	for _, cell := range []int{0, w - 1, w * (h - 1), w*h - 1, w * h / 2} {
		if !slices.Contains(cells, cell) {
			l.Targets = append(l.Targets, target(string(rune('a'+len(cells))), len(cells)%2, cell))
			cells = append(cells, cell)
		}
	}
	return l
}

func TestNextOnGrids(t *testing.T) {
	for _, side := range [][]int{{1, 1}, {40, 1}, {1, 40}, {2, 1}, {1, 2}, {5, 3}, {3, 5}} {
		x, _ := impl.BuildTables(cornersAnd(side[0], side[1]))
		for target := range x.Targets {
			for cell := range x.W * x.H {
				want, code := wantNext(x, target, cell)
				nextIs(t, x, target, cell, want, code)
			}
		}
	}
	most, _ := impl.BuildTables(cornersAnd(40, 40))
	counts := map[int]int{}
	for target := range most.Targets {
		for cell := target; cell < 1600; cell += 7 {
			want, _ := goOn(most, target, cell)
			counts[want-cell]++
			if got, code := impl.Next(most, target, cell); got != want || code != impl.CodeOK && (code != impl.CodeEnd || got != cell) {
				t.Errorf("40 by 40: Next(%d, %d): %d, %d, not %d", target, cell, got, code, want)
			}
		}
	}
	for _, way := range []int{-40, -1, 1, 40} {
		if counts[way] < 20 {
			t.Errorf("%v: too few of one way", counts)
		}
	}
	for i, target := range most.Targets {
		nextIs(t, most, i, target.Cell, target.Cell, impl.CodeEnd)
	}
	shut := plainTables(40, 40, 2)
	nextIs(t, shut, 0, 1599, 1599, impl.CodeLost)
	nextIs(t, shut, 1, 0, 0, impl.CodeLost)
	nextIs(t, shut, 1, 1, 1, impl.CodeEnd)
}

// refusedTrips goes through valid tables with a target or a cell that they have not.
func refusedTrips(t *testing.T, visit func(x impl.Tables, target, cell int)) {
	t.Helper()
	for _, x := range []impl.Tables{tablesFrom(t, "S 0"), tablesFrom(t, "S 0 1< 2< / 1^ 2^ -"), tablesFrom(t, "S 0 1< 2<", "C 2> 1> 0"), plainTables(3, 2, 0), plainTables(1, 40, 2), plainTables(40, 1, 30), plainTables(40, 40, 30)} {
		tablesGood(t, tablesText(x), x)
		n, last := len(x.Targets), x.W*x.H-1
		for _, target := range append([]int{n, n + 1, 30, -2, -n - 1, 256}, extremes...) {
			if target >= 0 && target < n {
				continue
			}
			for _, cell := range []int{0, last, last + 1, -1} {
				visit(x, target, cell)
			}
		}
		for _, cell := range append([]int{last + 1, last + 2, -2, -last - 1, 1600, 65535}, extremes...) {
			for target := range n {
				visit(x, target, cell)
			}
			visit(x, -1, cell)
			visit(x, n, cell)
		}
	}
}

func TestNextRefuses(t *testing.T) {
	refusedTrips(t, func(x impl.Tables, target, cell int) { nextIs(t, x, target, cell, 0, impl.CodeBad) })
}

func TestNextAndWalkRefuseTablesThatAreNotValid(t *testing.T) {
	for _, x := range faultyTables(t) {
		for target := -1; target < 5; target++ {
			for cell := -1; cell < 8; cell++ {
				if next, code := impl.Next(x.tables, target, cell); next != 0 || code != impl.CodeBad {
					t.Errorf("%s: Next(%d, %d): %d, %d", x.what, target, cell, next, code)
				}
				if walk, code := impl.Walk(x.tables, target, cell); len(walk) != 0 || code != impl.CodeBad {
					t.Errorf("%s: Walk(%d, %d): %v, %d", x.what, target, cell, walk, code)
				}
			}
		}
	}
}

// walkByNext goes by Next again and again. It gives up where a way is longer than a grid has cells.
func walkByNext(x impl.Tables, target, cell int) ([]int, int) {
	walk := []int{cell}
	for {
		next, code := impl.Next(x, target, walk[len(walk)-1])
		switch {
		case code == impl.CodeOK && len(walk) <= 1600:
			walk = append(walk, next)
		case code == impl.CodeEnd:
			return walk, impl.CodeOK
		case code == impl.CodeBad:
			return nil, impl.CodeBad
		default:
			return walk, code
		}
	}
}

func walkText(walk []int) string {
	if len(walk) > 60 {
		return fmt.Sprint(walk[:20], " and ", len(walk)-20, " more")
	}
	return fmt.Sprint(walk)
}

// walkOf answers Walk, which it wants to be as the document has it, and as promised: up to the target, by cells that are
// next to each other, each with less Dist.
func walkOf(t *testing.T, x impl.Tables, target, cell int) []int {
	t.Helper()
	walk, code := impl.Walk(x, target, cell)
	want, wantCode := wantWalk(x, target, cell)
	if code != wantCode || !slices.Equal(walk, want) {
		t.Errorf("Walk(%s, %d, %d): %s, %d, not %s, %d", tablesText(x), target, cell, walkText(walk), code, walkText(want), wantCode)
		return walk
	}
	if code == impl.CodeBad {
		return walk
	}
	if walk[0] != cell || code == impl.CodeLost && (len(walk) != 1 || x.Dist[target][cell] != -1) || code == impl.CodeOK && walk[len(walk)-1] != x.Targets[target].Cell {
		t.Errorf("Walk(%s, %d, %d): %s, %d", tablesText(x), target, cell, walkText(walk), code)
	}
	for i := 1; i < len(walk); i++ {
		a, b := spot{walk[i-1] % x.W, walk[i-1] / x.W}, spot{walk[i] % x.W, walk[i] / x.W}
		if far := (a.x-b.x)*(a.x-b.x) + (a.y-b.y)*(a.y-b.y); far != 1 || x.Dist[target][walk[i]] >= x.Dist[target][walk[i-1]] {
			t.Errorf("Walk(%s, %d, %d): %s at %d", tablesText(x), target, cell, walkText(walk), i)
		}
	}
	return walk
}

func walkAs(t *testing.T, route string, cell, code int, want ...int) {
	t.Helper()
	x := tablesFrom(t, route)
	before := copyTables(x)
	walk, got := impl.Walk(x, 0, cell)
	if got != code || !slices.Equal(walk, want) {
		t.Errorf("Walk(%s, %d): %v, %d, not %v, %d", route, cell, walk, got, want, code)
	}
	if !sameTables(x, before) {
		t.Errorf("Walk(%s, %d) writes into the tables", route, cell)
	}
	walkOf(t, x, 0, cell)
}

func TestWalkCases(t *testing.T) {
	// at the target, and without a way
	walkAs(t, "S 0", 0, impl.CodeOK, 0)
	walkAs(t, "S 0 -", 0, impl.CodeOK, 0)
	walkAs(t, "S 0 -", 1, impl.CodeLost, 1)
	walkAs(t, "C - - / 1> 0", 3, impl.CodeOK, 3)
	walkAs(t, "C - - / 1> 0", 1, impl.CodeLost, 1)
	walkAs(t, "C - - / 1> 0", 0, impl.CodeLost, 0)
	// one step, several, in each of the four ways
	walkAs(t, "S 0 1<", 1, impl.CodeOK, 1, 0)
	walkAs(t, "S 1> 0", 0, impl.CodeOK, 0, 1)
	walkAs(t, "S 0 / 1^", 1, impl.CodeOK, 1, 0)
	walkAs(t, "S 1v / 0", 0, impl.CodeOK, 0, 1)
	walkAs(t, "S 3> 2> 1> 0", 0, impl.CodeOK, 0, 1, 2, 3)
	walkAs(t, "S 3> 2> 1> 0", 2, impl.CodeOK, 2, 3)
	walkAs(t, "S 0 / 1^ / 2^", 2, impl.CodeOK, 2, 1, 0)
	walkAs(t, "S 0 5v / 1^ 4<", 1, impl.CodeOK, 1, 3, 2, 0)
	walkAs(t, "S 8> 7> 6v / 1> 0 5v / 2^ 3< 4<", 0, impl.CodeOK, 0, 1, 2, 5, 8, 7, 6, 3, 4)
	walkAs(t, "S 8> 7> 6v / 1> 0 5v / 2^ 3< 4<", 7, impl.CodeOK, 7, 6, 3, 4)
	// distances that leap
	walkAs(t, "S 65534v 9> 0 / 65533> 300^ -", 0, impl.CodeOK, 0, 3, 4, 1, 2)
	walkAs(t, "S 65534v 9> 0 / 65533> 300^ -", 5, impl.CodeLost, 5)
}

func TestWalkRefuses(t *testing.T) {
	refusedTrips(t, func(x impl.Tables, target, cell int) {
		if walk, code := impl.Walk(x, target, cell); len(walk) != 0 || code != impl.CodeBad {
			t.Errorf("Walk(%s, %d, %d): %s, %d", tablesText(x), target, cell, walkText(walk), code)
		}
	})
}

func TestWalksOfAllSmallTables(t *testing.T) {
	lengths := map[int]int{}
	visit := func(x impl.Tables) {
		if !impl.ValidTables(x) {
			return
		}
		for cell := range x.W * x.H {
			walk := walkOf(t, x, 0, cell)
			again, code := walkByNext(x, 0, cell)
			if (code == impl.CodeOK) != (x.Dist[0][cell] >= 0) || !slices.Equal(walk, again) {
				t.Errorf("%s: from %d: %v, but by Next %v, %d", tablesText(x), cell, walk, again, code)
			}
			lengths[len(walk)]++
		}
	}
	allTables(1, 1, span(-1, 3), span(-1, 3), visit)
	allTables(2, 1, span(-1, 4), span(-1, 3), visit)
	allTables(1, 2, span(-1, 4), span(-1, 3), visit)
	allTables(4, 1, span(-1, 3), []int{-1, 1, 3}, visit)
	allTables(1, 4, span(-1, 3), []int{-1, 0, 2}, visit)
	allTables(2, 2, span(-1, 3), []int{-1, 0, 1, 2, 3}, visit)
	for n := 1; n <= 4; n++ {
		if lengths[n] < 12 {
			t.Errorf("%v: too few walks of %d cells", lengths, n)
		}
	}
}

func TestWalksOfMadeTables(t *testing.T) {
	for seed := range int64(400) {
		w := newSurveyor(310000 + seed)
		x := w.tables(6)
		if seed%2 == 1 {
			x, _ = impl.BuildTables(w.layout(6))
		}
		for target := range x.Targets {
			for cell := range x.W * x.H {
				walk := walkOf(t, x, target, cell)
				if again, _ := walkByNext(x, target, cell); !slices.Equal(walk, again) {
					t.Errorf("%s: from %d: %v, but by Next %v", tablesText(x), cell, walk, again)
				}
			}
		}
		if t.Failed() {
			return
		}
	}
}

// No walk can be longer than one through all cells, as no cell comes twice.
func TestLongestWalks(t *testing.T) {
	path := snakePath(40, 40)
	x := pathTables(40, 40, path, reversed(path))
	tablesGood(t, "the snakes", x)
	steep := copyTables(x)
	for cell, dist := range steep.Dist[0] {
		steep.Dist[0][cell] = dist * 40
	}
	steep.Dist[0][0] = 65534
	tablesGood(t, "the steep snake", steep)
	for _, x := range []impl.Tables{x, steep} {
		if walk, code := impl.Walk(x, 0, 0); code != impl.CodeOK || !slices.Equal(walk, path) || len(walk) != 1600 {
			t.Errorf("the snake: %s, %d", walkText(walk), code)
		}
		if walk, code := impl.Walk(x, 1, path[1599]); code != impl.CodeOK || !slices.Equal(walk, reversed(path)) {
			t.Errorf("the snake back: %s, %d", walkText(walk), code)
		}
		for i := 0; i < 1600; i += 97 {
			if walk := walkOf(t, x, 0, path[i]); !slices.Equal(walk, path[i:]) {
				t.Errorf("the snake from %d: %s", i, walkText(walk))
			}
		}
		if walk, code := walkByNext(x, 0, 0); code != impl.CodeOK || !slices.Equal(walk, path) {
			t.Errorf("the snake by Next: %s, %d", walkText(walk), code)
		}
	}
	for _, side := range [][]int{{40, 1}, {1, 40}} {
		row := pathTables(side[0], side[1], span(0, 39), span(39, 0))
		if walk := walkOf(t, row, 0, 0); !slices.Equal(walk, span(0, 39)) {
			t.Errorf("%v: %v", side, walk)
		}
		if walk := walkOf(t, row, 1, 39); !slices.Equal(walk, span(39, 0)) {
			t.Errorf("%v: %v", side, walk)
		}
	}
	open, _ := impl.BuildTables(mostTargets())
	for target := range open.Targets {
		walkOf(t, open, target, (target*641+13)%1600)
	}
}

func TestWalksAreNewMemory(t *testing.T) {
	for _, plain := range []impl.Tables{tablesFrom(t, "S 0"), tablesFrom(t, "C 1> 0 -", "S 2> 1> 0"), pathTables(6, 6, snakePath(6, 6), reversed(snakePath(6, 6)))} {
		x := roomyTables(plain)
		for target := range x.Targets {
			for cell := range x.W * x.H {
				name := append(bytes.Clone(x.Targets[target].Name), "behind"...)[:len(x.Targets[target].Name)]
				impl.FindTarget(x, name)
				impl.Next(x, target, cell)
				walk, code := impl.Walk(x, target, cell)
				again, codeAgain := impl.Walk(x, target, cell)
				if code != codeAgain || !slices.Equal(walk, again) {
					t.Errorf("%s: %v, then %v", tablesText(plain), walk, again)
				}
				shareNone(t, "Walk", append(tablesExtents(x), extentOf(walk), extentOf(again)))
				clear(walk[:cap(walk)])
				walkOf(t, x, target, cell)
				if string(name[:len(name)+6]) != string(x.Targets[target].Name)+"behind" {
					t.Errorf("FindTarget writes behind a Name: %q", name[:len(name)+6])
				}
			}
		}
		if !sameTables(x, plain) {
			t.Errorf("%s is written into: %s", tablesText(plain), tablesText(x))
		}
		behindLists(t, tablesText(x), slices.Concat(x.Dist, x.Hop)...)
		for _, target := range x.Targets {
			behindName(t, tablesText(x), target.Name)
		}
	}
}
