package tests

import (
	"bytes"
	"fmt"
	"math"
	"slices"
	"strings"
	"testing"

	"loop.example/s02126/impl"
)

// tablesIs wants ValidTables to answer so, Nearest to refuse tables that are not valid, EncodeImage to have no bytes for
// them, and none to write into them.
func tablesIs(t *testing.T, what string, x impl.Tables, want bool) {
	t.Helper()
	if wantValidTables(x) != want {
		t.Errorf("%s: the test has it wrong: %s", what, tablesText(x))
	}
	before := copyTables(x)
	if got := impl.ValidTables(x); got != want {
		t.Errorf("ValidTables(%s): %v, not %v", what, got, want)
	}
	for kind := range 2 {
		nearest, code := impl.Nearest(x, kind, 0)
		if !want && (nearest != 0 || code != impl.CodeBad) || want && code == impl.CodeBad {
			t.Errorf("Nearest(%s, %d, 0): %d, %d", what, kind, nearest, code)
		}
	}
	if image := impl.EncodeImage(x); !bytes.Equal(image, wantImage(x)) || want != (len(image) > 0) {
		t.Errorf("EncodeImage(%s): %s", what, imageText(image))
	}
	if !sameTables(x, before) {
		t.Errorf("%s is written into", what)
	}
}

func tablesGood(t *testing.T, what string, x impl.Tables) {
	t.Helper()
	tablesIs(t, what, x, true)
}

func tablesBad(t *testing.T, what string, x impl.Tables) {
	t.Helper()
	tablesIs(t, what, x, false)
}

// plainTables has n targets, each with a way from no other cell.
func plainTables(w, h, n int) impl.Tables {
	x := impl.Tables{W: w, H: h}
	for i := range n {
		x.Targets = append(x.Targets, target(string(rune('A'+i)), i%2, i))
		dist := slices.Repeat([]int{-1}, max(0, w*h))
		hop := slices.Clone(dist)
		dist[i] = 0
		x.Dist, x.Hop = append(x.Dist, dist), append(x.Hop, hop)
	}
	return x
}

func TestValidTablesOfSides(t *testing.T) {
	sides := append([]int{0, 1, 2, 39, 40, 41, 42, -40, 80, 1600, 1 << 16}, extremes...)
	for _, w := range sides {
		for _, h := range sides {
			fits := w >= 1 && w <= 40 && h >= 1 && h <= 40
			what := fmt.Sprint(w, " by ", h)
			tablesIs(t, what+" without targets", impl.Tables{W: w, H: h}, fits)
			for _, cells := range []int{0, 1, 2, 40, 1600} {
				x := plainTables(max(1, cells), 1, 1)
				x.W, x.H = w, h
				x.Dist[0], x.Hop[0] = x.Dist[0][:cells], x.Hop[0][:cells]
				tablesIs(t, fmt.Sprint(what, " of ", cells), x, fits && w*h == cells)
			}
			if fits {
				tablesGood(t, what+" with a target", plainTables(w, h, 1))
			}
		}
	}
	// sides beyond the bound, with lists of their length
	for _, side := range [][]int{{41, 1}, {1, 41}, {41, 40}, {40, 41}, {41, 41}, {80, 20}, {1600, 1}} {
		tablesBad(t, fmt.Sprint(side), plainTables(side[0], side[1], 1))
		turned := plainTables(40, 40, 1)
		turned.W, turned.H = side[0], side[1]
		tablesBad(t, fmt.Sprint(side, " of 1600"), turned)
	}
	tablesBad(t, "the zero tables", impl.Tables{})
}

func TestValidTablesWithoutTargets(t *testing.T) {
	for _, empty := range [][][]int{nil, {}} {
		x := impl.Tables{W: 3, H: 2, Targets: []impl.Target{}, Dist: empty, Hop: empty}
		tablesGood(t, "no targets", x)
		x.Dist = [][]int{{}}
		tablesBad(t, "an empty list of distances", x)
		x.Dist = [][]int{nil}
		tablesBad(t, "a nil list of distances", x)
		x.Dist, x.Hop = empty, [][]int{nil}
		tablesBad(t, "a nil list of hops", x)
		x.Dist, x.Hop = [][]int{nil}, [][]int{nil}
		tablesBad(t, "a nil list of both", x)
		x.Dist, x.Hop = [][]int{slices.Repeat([]int{-1}, 6)}, [][]int{slices.Repeat([]int{-1}, 6)}
		tablesBad(t, "a list of both", x)
	}
}

func TestValidTablesOfLists(t *testing.T) {
	layout := tablesOf(t, crowded, layoutOf(t, crowded))
	for _, x := range []impl.Tables{plainTables(1, 1, 1), plainTables(3, 2, 1), plainTables(3, 2, 4), plainTables(40, 40, 30), layout} {
		n := len(x.Targets)
		cells := x.W * x.H
		for field := range 2 {
			lists := func(x *impl.Tables) *[][]int { return []*[][]int{&x.Dist, &x.Hop}[field] }
			what := fmt.Sprint(tablesText(x), ", field ", field, ": ")
			for _, many := range []int{0, 1, n - 1, n, n + 1, 2 * n} {
				y := copyTables(x)
				*lists(&y) = slices.Repeat(*lists(&y), 2)[:many]
				tablesIs(t, fmt.Sprint(what, many, " lists"), y, many == n)
			}
			y := copyTables(x)
			*lists(&y) = append(*lists(&y), nil)
			tablesBad(t, what+"a nil list more", y)
			for i := range n {
				list := (*lists(&x))[i]
				for _, other := range [][]int{nil, {}, list[1:], list[:cells-1], append(slices.Clone(list), -1), append([]int{-1}, list...), slices.Repeat(list, 2)} {
					y := copyTables(x)
					(*lists(&y))[i] = other
					tablesBad(t, fmt.Sprint(what, "list ", i, " of ", len(other)), y)
				}
			}
		}
		y := copyTables(x)
		y.Targets = y.Targets[1:]
		tablesBad(t, tablesText(x)+" without its first target", y)
		y = copyTables(x)
		y.Dist, y.Hop = y.Dist[1:], y.Hop[1:]
		tablesBad(t, tablesText(x)+" without its first lists", y)
	}
}

func TestValidTablesOfTargets(t *testing.T) {
	for i := range 3 {
		for kind, ok := range map[int]bool{math.MinInt: false, -1: false, 0: true, 1: true, 2: false, 14: false, 15: false, 256: false, 1 << 32: false, math.MaxInt: false} {
			x := plainTables(4, 3, 3)
			x.Targets[i].Kind = kind
			tablesIs(t, fmt.Sprint("kind ", kind), x, ok)
		}
		for cell, ok := range map[int]bool{math.MinInt: false, -1: false, 5: true, 11: true, 12: false, 13: false, 1600: false, 1 << 32: false, math.MaxInt: false} {
			x := plainTables(4, 3, 3)
			x.Targets[i].Cell = cell
			tablesBad(t, fmt.Sprint("cell ", cell, " but not in the lists"), x)
			x.Dist[i][i] = -1
			if ok {
				x.Dist[i][cell] = 0
			}
			tablesIs(t, fmt.Sprint("cell ", cell), x, ok)
		}
		for j := range 3 {
			x := plainTables(4, 3, 3)
			x.Targets[i].Cell = j
			x.Dist[i][i], x.Dist[i][j] = -1, 0
			tablesIs(t, fmt.Sprint("the cell of ", j, " for ", i), x, i == j)
			x = plainTables(4, 3, 3)
			x.Targets[i].Name = slices.Clone(x.Targets[j].Name)
			tablesIs(t, fmt.Sprint("the name of ", j, " for ", i), x, i == j)
			x = plainTables(4, 3, 3)
			x.Targets[i], x.Targets[j] = x.Targets[j], x.Targets[i]
			x.Dist[i], x.Dist[j] = x.Dist[j], x.Dist[i]
			tablesIs(t, fmt.Sprint("targets ", i, " and ", j, " turned"), x, i == j)
		}
	}
	for n, want := range map[int]bool{0: true, 1: true, 29: true, 30: true, 31: false, 32: false, 60: false} {
		tablesIs(t, fmt.Sprint(n, " targets"), plainTables(10, 6, n), want)
	}
}

func TestValidTablesOfNames(t *testing.T) {
	for name, ok := range map[string]bool{
		"": false, "a": true, "\x00": true, "\n": true, "å": true, "😀": true, "\U0010ffff": true,
		strings.Repeat("n", 60): true, strings.Repeat("n", 61): false, strings.Repeat("å", 30): true, strings.Repeat("å", 31): false,
		"\xff": false, "a\xc3": false, "\xed\xa0\x80": false, "\xc0\x80": false, "\xf4\x90\x80\x80": false,
	} {
		x := plainTables(2, 1, 1)
		x.Targets[0].Name = []byte(name)
		tablesIs(t, fmt.Sprintf("the name %q", name), x, ok)
	}
	x := plainTables(2, 1, 1)
	x.Targets[0].Name = nil
	tablesBad(t, "a nil name", x)
	for names, ok := range map[[3]string]bool{
		{"A", "B", "a"}: true, {"a", "aa", "ab"}: true, {"10", "2", "20"}: true, {"z", "å", "€"}: true, {"", "a", "b"}: false,
		{"a", "B", "c"}: false, {"aa", "a", "b"}: false, {"a", "a", "b"}: false, {"a", "b", "b"}: false, {"a", "c", "b"}: false, {"c", "b", "a"}: false,
	} {
		x := plainTables(2, 2, 3)
		for i, name := range names {
			x.Targets[i].Name = []byte(name)
		}
		tablesIs(t, fmt.Sprintf("the names %q", names), x, ok)
	}
}

// The own cell of a target, wherever it stands and whatever the others have.
func TestValidTablesOfTheTargetsCell(t *testing.T) {
	for _, x := range []impl.Tables{tablesFrom(t, "S 0"), tablesFrom(t, "S 0 1< 2<"), tablesFrom(t, "C 1> 0 1<", "S 2> 1> 0"), tablesFrom(t, "S 2v 3< / 1v 2v / 0 1<", "C 0 - / - - / - -")} {
		tablesGood(t, tablesText(x), x)
		for i, target := range x.Targets {
			for _, dist := range append([]int{-2, 1, 2, 3, 65534, 65535}, extremes...) {
				y := copyTables(x)
				y.Dist[i][target.Cell] = dist
				tablesBad(t, fmt.Sprint(tablesText(x), ", target ", i, " with Dist ", dist), y)
				for hop := range 4 {
					y.Hop[i][target.Cell] = hop
					tablesBad(t, fmt.Sprint(tablesText(x), ", target ", i, " with Dist ", dist, " and Hop ", hop), y)
				}
			}
			for _, hop := range slices.DeleteFunc(append(span(-3, 5), extremes...), func(n int) bool { return n == -1 }) {
				y := copyTables(x)
				y.Hop[i][target.Cell] = hop
				tablesBad(t, fmt.Sprint(tablesText(x), ", target ", i, " with Hop ", hop), y)
			}
		}
	}
}

func stepsGood(t *testing.T, routes ...string) {
	t.Helper()
	for _, route := range routes {
		tablesGood(t, route, tablesFrom(t, route))
	}
}

func stepsBad(t *testing.T, routes ...string) {
	t.Helper()
	for _, route := range routes {
		tablesBad(t, route, tablesFrom(t, route))
	}
}

func TestValidTablesOfSteps(t *testing.T) {
	stepsGood(t, "S 0", "S 0 -", "S - 0", "S - / 0", "S 0 1<", "S 1> 0", "S 0 / 1^", "S 1v / 0", "S 0 65534<", "S 0 1< -", "S - 0 1<")
	// a Dist of any size that is more than that of the next
	stepsGood(t, "S 0 1< 2<", "S 0 1< 3<", "S 0 1< 65534<", "S 0 65533< 65534<", "S 0 2< 3<", "S 0 30000< 30001<")
	stepsBad(t, "S 0 1< 1<", "S 0 2< 1<", "S 0 2< 2<", "S 0 65534< 65534<", "S 0 65534< 65535<", "S 0 65535< 65534<", "S 0 65535<", "S 0 65536<")
	// 0 for a cell that is no target
	stepsBad(t, "S 0 1< 0<", "S 0 0<", "S 0 -2<", "S 0 -3<", "S 0 -65534<")
	x := tablesFrom(t, "S 0 1<")
	for dist, ok := range map[int]bool{-2: false, -1: false, 0: false, 1: true} {
		x.Dist[0][1] = dist
		tablesIs(t, fmt.Sprint("Dist ", dist, " with a Hop"), x, ok)
		y := copyTables(x)
		y.Hop[0][1] = -1
		tablesIs(t, fmt.Sprint("Dist ", dist, " without a Hop"), y, dist == -1)
	}
	// a hop out of the grid on each side, also where the next cell by number would be nearer
	stepsBad(t, "S 0 1^", "S 0 1v", "S 0 1>", "S 1^ 0", "S 1v 0", "S 1< 0", "S 0 / 1v", "S 0 / 1<", "S 0 / 1>", "S 1^ / 0", "S 1< / 0", "S 1> / 0")
	stepsBad(t, "S 0 1< / 2< 2^", "S 2> 1> / 0 1<", "S - 1> / 0 -", "S - 0 / 1< -")
	stepsGood(t, "S 0 1< / 2^ 2^", "S 2v 3< / 0 1<")
	// a hop to a cell from which no way leads
	stepsBad(t, "S 0 1> -", "S 0 - 2<", "S 0 1v / - -", "S - 1^ / 0 -")
	// to one that is as far, or farther
	stepsBad(t, "S 0 1< 2< 2<", "S 0 1< 2> 3<", "S 0 1< 2> 2<", "S 1> 2> 3> 0", "S 0 2> 1<", "S 0 5> 5<")
	stepsGood(t, "S 0 1< 2< 3<", "S 3> 2> 1> 0", "S 0 1< 6> 5v / 1^ 2^ 3< 4<")
	// steps that are not those of any least way
	stepsGood(t, "S 0 9< / 1^ 8<", "S 0 9v / 1^ 8<", "S 0 65534v / 1^ 8<")
	// round the target without ever coming there
	stepsBad(t, "S 0 - - / - 1> 2v / - 4^ 3<", "S 0 - - / - 4> 3v / - 5^ 2<")
}

// The fields of one cell at their bounds and beyond, for each cell of a grid.
func TestValidTablesOfFields(t *testing.T) {
	for _, x := range []impl.Tables{tablesOf(t, "open", func() impl.Layout {
		l := openLayout(3, 3)
		l.Targets = []impl.Target{target("a", 0, 4), target("b", 1, 8)}
		return l
	}()), tablesOf(t, crowded, layoutOf(t, crowded))} {
		for i := range x.Targets {
			for cell := range x.Dist[i] {
				for _, n := range append([]int{-2, -1, 0, 1, 2, 3, 4, 5, 6, 7, 65533, 65534, 65535, 65536}, extremes...) {
					y := copyTables(x)
					y.Dist[i][cell] = n
					tablesIs(t, fmt.Sprint("Dist ", n, " of ", cell), y, wantValidTables(y))
					z := copyTables(x)
					z.Hop[i][cell] = n
					tablesIs(t, fmt.Sprint("Hop ", n, " of ", cell), z, wantValidTables(z))
					if n < -1 || n > 65534 {
						tablesBad(t, fmt.Sprint("Dist ", n, " of ", cell), y)
					}
					if n < -1 || n > 3 {
						tablesBad(t, fmt.Sprint("Hop ", n, " of ", cell), z)
					}
				}
			}
		}
	}
}

// allSteps calls for each choice of a Dist and a Hop for each cell.
func allSteps(cells int, dists, hops []int, visit func(dist, hop []int)) {
	dist, hop := make([]int, cells), make([]int, cells)
	var fill func(cell int)
	fill = func(cell int) {
		if cell == cells {
			visit(dist, hop)
			return
		}
		for _, dist[cell] = range dists {
			for _, hop[cell] = range hops {
				fill(cell + 1)
			}
		}
	}
	fill(0)
}

// allTables calls for each choice of a Dist and a Hop for each cell, with one target on each cell.
func allTables(w, h int, dists, hops []int, visit func(x impl.Tables)) {
	for at := range w * h {
		x := impl.Tables{W: w, H: h, Targets: []impl.Target{target("a", 0, at)}}
		allSteps(w*h, dists, hops, func(dist, hop []int) {
			x.Dist, x.Hop = [][]int{dist}, [][]int{hop}
			visit(x)
		})
	}
}

func TestValidTablesOfAllSmallGrids(t *testing.T) {
	valid := 0
	compare := func(w, h int, dists, hops []int) {
		allTables(w, h, dists, hops, func(x impl.Tables) {
			got, want := impl.ValidTables(x), wantValidTables(x)
			if got != want {
				t.Errorf("ValidTables(%s): %v, not %v", tablesText(x), got, want)
			}
			if want {
				valid++
			}
		})
	}
	compare(1, 1, span(-3, 5), span(-3, 5))
	compare(2, 1, span(-2, 4), span(-2, 4))
	compare(1, 2, span(-2, 4), span(-2, 4))
	compare(3, 1, span(-2, 3), []int{-1, 0, 1, 3})
	compare(1, 3, span(-2, 3), []int{-1, 0, 2, 3})
	compare(2, 2, []int{-1, 0, 1, 2}, span(-1, 3))
	if valid < 100 {
		t.Errorf("only %d are valid", valid)
	}
}

// spoilTables changes one thing of tables.
func (w surveyor) spoilTables(x *impl.Tables) {
	n := pick(w.r, -2, -1, 0, 1, 2, 3, 4, 5, 40, 41, 65534, 65535, x.W*x.H-1, x.W*x.H)
	choice := w.r.Intn(12)
	if len(x.Targets) == 0 {
		choice = w.r.Intn(2)
	}
	i := w.r.Intn(max(1, len(x.Targets)))
	cell := w.r.Intn(x.W * x.H)
	switch choice {
	case 0:
		x.W = n
	case 1:
		x.H = n
	case 2:
		x.Targets[i].Name = w.name()
	case 3:
		x.Targets[i].Kind = n
	case 4:
		x.Targets[i].Cell = n
	case 5:
		x.Dist[i] = x.Dist[i][1:]
	case 6:
		x.Hop = append(x.Hop, x.Hop[i])
	case 7, 8:
		x.Dist[i][cell], x.Hop[i][cell] = -1, -1
	case 9, 10:
		x.Dist[i][cell] = n
	default:
		x.Hop[i][cell] = n
	}
}

func TestValidTablesOfChangedTables(t *testing.T) {
	refused := 0
	for seed := range int64(3000) {
		w := newSurveyor(230000 + seed)
		x := w.tables(6)
		tablesGood(t, tablesText(x), x)
		for range 6 {
			y := copyTables(x)
			w.spoilTables(&y)
			if !wantValidTables(y) {
				refused++
			}
			tablesIs(t, tablesText(y), y, wantValidTables(y))
		}
		if t.Failed() {
			return
		}
	}
	if refused < 6000 || refused > 16000 {
		t.Errorf("%d changed tables are not valid: too few of one sort", refused)
	}
	for seed := range int64(10) {
		x := newSurveyor(239000 + seed).tables(40)
		tablesGood(t, tablesText(x), x)
	}
}

// roomyTables answers the same tables with something behind each list.
func roomyTables(x impl.Tables) impl.Tables {
	x.Targets = roomyLayout(impl.Layout{Targets: x.Targets}).Targets
	for _, lists := range []*[][]int{&x.Dist, &x.Hop} {
		n := len(*lists)
		*lists = append(copyLists(*lists), []int{7})[:n]
		for i, list := range *lists {
			(*lists)[i] = append(list, 7, 7)[:len(list)]
		}
	}
	return x
}

func TestTablesAreNotWrittenInto(t *testing.T) {
	for _, plain := range []impl.Tables{plainTables(1, 1, 0), tablesFrom(t, "S 0"), tablesFrom(t, "C 1> 0 1<", "S 2> 1> 0"), tablesOf(t, crowded, layoutOf(t, crowded))} {
		x := roomyTables(plain)
		valid := impl.ValidTables(x)
		impl.Nearest(x, 0, 0)
		impl.Nearest(x, 1, x.W*x.H-1)
		n := len(x.Targets)
		if !valid || !sameTables(x, plain) || x.Targets[:n+1][n].Cell != 7 || x.Dist[:n+1][n][0] != 7 || x.Hop[:n+1][n][0] != 7 {
			t.Errorf("%s: %v, %s", tablesText(plain), valid, tablesText(x))
		}
		behindLists(t, tablesText(x), slices.Concat(x.Dist, x.Hop)...)
		for _, target := range x.Targets {
			behindName(t, tablesText(x), target.Name)
		}
	}
}
