package tests

import (
	"fmt"
	"math"
	"slices"
	"strings"
	"testing"

	"loop.example/s02126/impl"
)

// denoteOf wants Denote to answer what the last declarations over each cell say, and answers that. It wants the layout
// to be valid, and to come back from its own declarations.
func denoteOf(t *testing.T, what string, decls []impl.Decl) (impl.Layout, int, int) {
	t.Helper()
	want, code, at := wantDenote(decls)
	before := copyDecls(decls)
	got, c, a := impl.Denote(decls)
	if c != code || a != at {
		t.Errorf("Denote(%s): %d at %d, not %d at %d", what, c, a, code, at)
	}
	if !sameLayout(got, want) {
		t.Errorf("Denote(%s): %v, not %v", what, got, want)
	}
	if !sameDecls(decls, before) {
		t.Errorf("Denote(%s): its declarations are written into", what)
	}
	if c == impl.CodeOK {
		comesBack(t, what, got)
	}
	return want, code, at
}

func comesBack(t *testing.T, what string, l impl.Layout) {
	t.Helper()
	if !impl.ValidLayout(l) {
		t.Errorf("%s: %v is not valid", what, l)
	}
	back, code, at := impl.Denote(impl.LayoutDecls(l))
	if code != impl.CodeOK || at != 0 || !sameLayout(back, l) {
		t.Errorf("%s: %v comes back as %v, %d at %d", what, l, back, code, at)
	}
}

// denoteAs wants declarations to have these costs and exits; both are written row by row, exits with the letters of the
// ways, and a wall as #.
func denoteAs(t *testing.T, text, costs, exits string) {
	t.Helper()
	decls, _ := declsOf(t, text)
	l, code, at := denoteOf(t, text, decls)
	if code != impl.CodeOK || at != 0 {
		t.Errorf("%s: the test has it wrong, %d at %d", text, code, at)
	}
	if got := costText(l); got != costs {
		t.Errorf("%s: costs %s, not %s", text, got, costs)
	}
	if got := exitText(l); got != exits {
		t.Errorf("%s: exits %s, not %s", text, got, exits)
	}
}

func costText(l impl.Layout) string {
	out := ""
	for cell, cost := range l.Cost {
		if cell > 0 && cell%l.W == 0 {
			out += "/"
		}
		out += fmt.Sprint(cost)
	}
	return out
}

func exitText(l impl.Layout) string {
	var rows []string
	for row := range slices.Chunk(l.Exits, l.W) {
		var cells []string
		for _, exits := range row {
			letters := ""
			for way, letter := range []string{"n", "e", "s", "w"} {
				if exits>>way&1 == 1 {
					letters += letter
				}
			}
			if letters == "" {
				letters = "-"
			}
			cells = append(cells, letters)
		}
		rows = append(rows, strings.Join(cells, " "))
	}
	return strings.Join(rows, "/")
}

// faultAs wants a code at the declaration that is marked, and no layout.
func faultAs(t *testing.T, code int, marked ...string) {
	t.Helper()
	for _, text := range marked {
		decls, mark := declsOf(t, text)
		denotesFault(t, text, decls, code, mark)
	}
}

func denotesFault(t *testing.T, what string, decls []impl.Decl, code, mark int) {
	t.Helper()
	if _, c, a := denoteOf(t, what, decls); c != code || a != mark {
		t.Errorf("%s: the test has it wrong, %d at %d, not %d at %d", what, c, a, code, mark)
	}
	if l, _, _ := impl.Denote(decls); l.W != 0 || l.H != 0 || len(l.Cost) != 0 || len(l.Exits) != 0 || len(l.Targets) != 0 {
		t.Errorf("%s: %v beside code %d", what, l, code)
	}
}

func fineAs(t *testing.T, texts ...string) {
	t.Helper()
	for _, text := range texts {
		decls, _ := declsOf(t, text)
		if _, code, at := denoteOf(t, text, decls); code != impl.CodeOK || at != 0 {
			t.Errorf("%s: the test has it wrong, %d at %d", text, code, at)
		}
	}
}

func TestDenoteGrids(t *testing.T) {
	denoteAs(t, "grid 1 1", "1", "-")
	denoteAs(t, "grid 2 1", "11", "e w")
	denoteAs(t, "grid 1 2", "1/1", "s/n")
	denoteAs(t, "grid 3 2", "111/111", "es esw sw/ne new nw")
	denoteAs(t, "grid 3 3", "111/111/111", "es esw sw/nes nesw nsw/ne new nw")
	fineAs(t, "grid 40 1", "grid 1 40", "grid 40 40", "grid 39 40")
	faultAs(t, impl.CodeValue, "", "grid 0 0", "grid 0 1", "grid 1 0", "grid 41 1", "grid 1 41", "grid 41 41", "grid 40 41", "grid 41 40", "grid -1 1", "grid 1 -1", "grid -1 -1", "grid -40 -40", "grid 1000000 1", "grid 1 1000000", "grid -1000000 -1000000", "grid 1000000 1000000")
	faultAs(t, impl.CodeValue, "grid 1 1; ^grid 1 1", "grid 1 1; ^grid 2 2", "grid 3 3; wall 1 1; ^grid 3 3", "grid 2 2; ^grid 0 0; grid 1 1", "grid 2 2; ^grid 1 1; grid 0 0", "grid 1 1; station a 0 0; ^grid 41 1", "grid 1 1; wall 0 0; open 0 0; ^grid 40 40; wall 3 3")
	faultAs(t, impl.CodeValue, "wall 0 0", "open 0 0", "lane 0 0 north", "gate 0 0 west", "bar 0 0 east", "zone 0 0 cost 2", "station a 0 0", "charger a 0 0", "wall 0 0; grid 2 2", "station a 0 0; grid 1 1; wall 9 9", "zone 5 5 cost 0; grid 2 2", "grid 0 1; grid 1 1", "grid 0 1; wall 7 7")
	if l, code, at := impl.Denote([]impl.Decl{}); code != impl.CodeValue || at != 0 || !sameLayout(l, impl.Layout{}) {
		t.Errorf("no declarations: %v, %d at %d", l, code, at)
	}
}

// Each kind with an area on each area that has its corners at or next to the grid, the corners in each order.
func TestDenoteAreas(t *testing.T) {
	behind := map[int]string{impl.NodeWall: "", impl.NodeOpen: "", impl.NodeLane: " south", impl.NodeZone: " cost 7"}
	edges := []int{-1000000, -1, 0, 1, 2, 3, 1000000}
	for kind, tail := range behind {
		for n := range 7 * 7 * 7 * 7 {
			x1, y1, x2, y2 := edges[n%7], edges[n/7%7], edges[n/49%7], edges[n/343]
			text := fmt.Sprint("grid 3 2; wall 1 0; ^", statWords[kind-impl.NodeLet], " ", x1, " ", y1, " ", x2, " ", y2, tail)
			inside := min(x1, x2) >= 0 && max(x1, x2) <= 2 && min(y1, y2) >= 0 && max(y1, y2) <= 1
			if inside {
				fineAs(t, text)
			} else {
				faultAs(t, impl.CodeValue, text)
			}
		}
	}
	for _, kind := range []string{"gate 0 0 east", "bar 0 0 north", "station a 0 0", "charger a 0 0"} {
		for _, x := range edges {
			for _, y := range edges {
				text := "grid 3 2; wall 1 0; ^" + strings.Replace(kind, "0 0", fmt.Sprint(x, " ", y), 1)
				if x < 0 || x > 2 || y < 0 || y > 1 || isTargetDecl(declOf(t, strings.Fields(kind))) && x == 1 && y == 0 {
					faultAs(t, impl.CodeValue, text)
				} else {
					fineAs(t, text)
				}
			}
		}
	}
	for _, text := range []string{"wall 0 0 2 1", "wall 2 0 0 1", "wall 0 1 2 0", "wall 2 1 0 0"} {
		denoteAs(t, "grid 4 3; "+text, "0001/0001/1111", "- - - s/- - - ns/e ew ew nw")
	}
	for _, text := range []string{"zone 1 1 2 2 cost 5", "zone 2 1 1 2 cost 5", "zone 1 2 2 1 cost 5", "zone 2 2 1 1 cost 5"} {
		denoteAs(t, "grid 4 3; wall 0 0 3 0; "+text, "0000/1551/1551", "- - - -/es esw esw sw/ne new new nw")
	}
	for _, text := range []string{"lane 0 0 2 0 east", "lane 2 0 0 0 east"} {
		denoteAs(t, "grid 3 2; "+text, "111/111", "e e -/ne new nw")
	}
	fineAs(t, "grid 40 40; wall 0 0 39 39", "grid 40 40; wall 39 39 0 0; open 39 0 0 39; zone 39 39 cost 9", "grid 40 40; lane 0 0 39 0 east; station a 39 39")
	faultAs(t, impl.CodeValue, "grid 40 40; ^wall 0 0 39 40", "grid 40 40; ^wall 0 0 40 39", "grid 40 40; ^wall 40 39", "grid 40 40; ^zone 39 40 cost 1")
}

func TestDenoteWalls(t *testing.T) {
	denoteAs(t, "grid 3 2; wall 1 0", "101/111", "s - s/ne ew nw")
	denoteAs(t, "grid 3 2; wall 1 0; wall 1 0", "101/111", "s - s/ne ew nw")
	denoteAs(t, "grid 3 2; wall 1 0; open 1 0", "111/111", "es esw sw/ne new nw")
	denoteAs(t, "grid 3 2; open 1 0; wall 1 0", "101/111", "s - s/ne ew nw")
	denoteAs(t, "grid 3 2; open 1 0", "111/111", "es esw sw/ne new nw")
	denoteAs(t, "grid 3 2; wall 1 0; open 1 0; wall 1 0; open 1 0; wall 1 0", "101/111", "s - s/ne ew nw")
	denoteAs(t, "grid 3 2; wall 0 0 2 1", "000/000", "- - -/- - -")
	denoteAs(t, "grid 3 2; wall 0 0 2 1; open 1 0 1 1", "010/010", "- s -/- n -")
	denoteAs(t, "grid 3 2; wall 0 0 1 1; wall 1 0 2 1; open 1 0", "010/000", "- - -/- - -")
	denoteAs(t, "grid 3 3; wall 1 1", "111/101/111", "es ew sw/ns - ns/ne ew nw")
	denoteAs(t, "grid 3 3; wall 0 0 2 2; open 1 1", "000/010/000", "- - -/- - -/- - -")
	denoteAs(t, "grid 3 1; wall 0 0 1 0; open 1 0 2 0", "011", "- e w")
}

func TestDenoteWays(t *testing.T) {
	for way, name := range wayNames {
		letter := name[:1]
		others := strings.Replace("nesw", letter, "", 1)
		for text, want := range map[string]string{
			"lane 1 1 WAY":                                 letter,
			"gate 1 1 WAY":                                 "nesw",
			"bar 1 1 WAY":                                  others,
			"bar 1 1 WAY; bar 1 1 WAY":                     others,
			"bar 1 1 WAY; gate 1 1 WAY":                    "nesw",
			"gate 1 1 WAY; bar 1 1 WAY":                    others,
			"lane 1 1 WAY; bar 1 1 WAY":                    "-",
			"lane 1 1 WAY; bar 1 1 WAY; gate 1 1 WAY":      letter,
			"lane 1 1 WAY; gate 1 1 WAY":                   letter,
			"bar 1 1 WAY; lane 1 1 WAY":                    letter,
			"bar 1 1 WAY; lane 1 1 0 0 WAY":                letter,
			"gate 1 1 WAY; lane 1 1 WAY; lane 1 1 2 2 WAY": letter,
		} {
			decls, _ := declsOf(t, "grid 3 3; "+strings.ReplaceAll(text, "WAY", name))
			l, code, _ := denoteOf(t, text, decls)
			if got := strings.Fields(strings.ReplaceAll(exitText(l), "/", " "))[4]; code != impl.CodeOK || got != want {
				t.Errorf("%s, %s: %s, not %s", text, name, got, want)
			}
		}
		for other, second := range wayNames {
			if other == way {
				continue
			}
			pair := ""
			for _, x := range []string{"n", "e", "s", "w"} {
				if x == letter || x == second[:1] {
					pair += x
				}
			}
			denoteAs(t, "grid 3 3; wall 0 0 2 2; open 1 0 1 2; open 0 1 2 1; lane 1 1 "+second+"; gate 1 1 "+name, "010/111/010", "- s -/e "+pair+" w/- n -")
			denoteAs(t, "grid 3 3; wall 0 0 2 2; open 1 0 1 2; open 0 1 2 1; lane 1 1 "+name+"; bar 1 1 "+second, "010/111/010", "- s -/e "+letter+" w/- n -")
			denoteAs(t, "grid 3 3; wall 0 0 2 2; open 1 0 1 2; open 0 1 2 1; gate 1 1 "+name+"; lane 1 1 "+second, "010/111/010", "- s -/e "+second[:1]+" w/- n -")
			denoteAs(t, "grid 3 3; wall 0 0 2 2; open 1 0 1 2; open 0 1 2 1; lane 1 1 "+name+"; lane 1 1 "+second, "010/111/010", "- s -/e "+second[:1]+" w/- n -")
		}
	}
	denoteAs(t, "grid 3 2; lane 0 0 2 1 north", "111/111", "- - -/n n n")
	denoteAs(t, "grid 3 2; lane 0 0 2 1 east", "111/111", "e e -/e e -")
	denoteAs(t, "grid 3 2; lane 0 0 2 1 south", "111/111", "s s s/- - -")
	denoteAs(t, "grid 3 2; lane 0 0 2 1 west", "111/111", "- w w/- w w")
	denoteAs(t, "grid 1 1; gate 0 0 north; gate 0 0 east; gate 0 0 south; gate 0 0 west", "1", "-")
	denoteAs(t, "grid 2 1; bar 0 0 east", "11", "- w")
	denoteAs(t, "grid 2 1; bar 1 0 west", "11", "e -")
	denoteAs(t, "grid 2 1; bar 0 0 west; bar 0 0 north; bar 0 0 south", "11", "e w")
}

func TestDenoteZones(t *testing.T) {
	for cost := 1; cost <= 9; cost++ {
		denoteAs(t, fmt.Sprint("grid 2 1; zone 1 0 cost ", cost), fmt.Sprint("1", cost), "e w")
	}
	for _, cost := range []int{0, 10, -1, 11, 256, 257, 1000000, -1000000} {
		faultAs(t, impl.CodeValue, fmt.Sprint("grid 2 1; ^zone 1 0 cost ", cost), fmt.Sprint("grid 2 1; wall 1 0; ^zone 1 0 cost ", cost), fmt.Sprint("grid 2 1; ^zone 2 0 cost ", cost), fmt.Sprint("grid 2 1; ^zone 2 0 cost ", cost, "; wall 7 7"))
	}
	faultAs(t, impl.CodeValue, "grid 2 1; ^zone 2 0 cost 1", "grid 2 1; zone 1 0 cost 1; ^zone 1 0 cost 0")
	denoteAs(t, "grid 3 1; zone 0 0 2 0 cost 4; zone 1 0 cost 1", "414", "e ew w")
	denoteAs(t, "grid 3 1; zone 1 0 cost 1; zone 0 0 2 0 cost 4", "444", "e ew w")
	denoteAs(t, "grid 3 1; zone 0 0 1 0 cost 4; zone 1 0 2 0 cost 5; zone 2 0 cost 6", "456", "e ew w")
}

// What is laid on a wall is seen again when it is opened, whichever of the two came first.
func TestDenoteUnderWalls(t *testing.T) {
	denoteAs(t, "grid 3 2; zone 1 0 cost 5; wall 1 0; open 1 0", "151/111", "es esw sw/ne new nw")
	denoteAs(t, "grid 3 2; wall 1 0; zone 1 0 cost 5; open 1 0", "151/111", "es esw sw/ne new nw")
	denoteAs(t, "grid 3 2; wall 1 0; zone 1 0 cost 5", "101/111", "s - s/ne ew nw")
	denoteAs(t, "grid 3 2; zone 1 0 cost 5; wall 1 0", "101/111", "s - s/ne ew nw")
	denoteAs(t, "grid 3 2; zone 1 0 cost 5; wall 1 0; zone 1 0 cost 6; open 1 0", "161/111", "es esw sw/ne new nw")
	denoteAs(t, "grid 3 2; zone 1 0 cost 5; wall 1 0; zone 1 0 cost 1; open 1 0", "111/111", "es esw sw/ne new nw")
	denoteAs(t, "grid 3 2; zone 1 0 cost 5; wall 1 0; open 1 0; wall 1 0; open 1 0", "151/111", "es esw sw/ne new nw")
	denoteAs(t, "grid 3 2; lane 1 0 west; wall 1 0; open 1 0", "111/111", "es w sw/ne new nw")
	denoteAs(t, "grid 3 2; wall 1 0; lane 1 0 west; open 1 0", "111/111", "es w sw/ne new nw")
	denoteAs(t, "grid 3 2; wall 1 0; lane 1 0 west", "101/111", "s - s/ne ew nw")
	denoteAs(t, "grid 3 2; lane 1 0 west; wall 1 0; gate 1 0 south; open 1 0", "111/111", "es sw sw/ne new nw")
	denoteAs(t, "grid 3 2; lane 1 0 west; wall 1 0; bar 1 0 west; open 1 0", "111/111", "es - sw/ne new nw")
	denoteAs(t, "grid 3 2; bar 1 0 west; wall 1 0; open 1 0", "111/111", "es es sw/ne new nw")
	denoteAs(t, "grid 3 2; wall 1 0; bar 1 0 west; open 1 0; gate 1 0 west", "111/111", "es esw sw/ne new nw")
	// A way onto a wall is kept, and is there when that is opened.
	denoteAs(t, "grid 3 2; wall 1 0; lane 0 0 east; open 1 0", "111/111", "e esw sw/ne new nw")
	denoteAs(t, "grid 3 2; wall 1 0; lane 0 0 east", "101/111", "- - s/ne ew nw")
	denoteAs(t, "grid 3 2; wall 1 0; bar 0 0 east; open 1 0", "111/111", "s esw sw/ne new nw")
	denoteAs(t, "grid 3 2; lane 0 0 2 1 east; wall 1 0 1 1; open 1 0; gate 1 1 north", "111/101", "e e -/- - -")
	denoteAs(t, "grid 2 1; bar 0 0 east; wall 1 0; gate 0 0 east; wall 0 0; zone 0 0 1 0 cost 3; open 0 0 1 0", "33", "e w")
}

func TestDenoteTargets(t *testing.T) {
	text := "grid 3 2; station b 2 1; charger a 0 0; zone 0 0 2 1 cost 4; station B 1 0; charger ab 1 1; station å 2 0; wall 0 1"
	decls, _ := declsOf(t, text)
	l, code, _ := impl.Denote(decls)
	want := []impl.Target{target("B", 0, 1), target("a", 1, 0), target("ab", 1, 4), target("b", 0, 5), target("å", 0, 2)}
	if code != impl.CodeOK || !slices.EqualFunc(l.Targets, want, sameTarget) {
		t.Errorf("%v, %d", l, code)
	}
	denoteOf(t, text, decls)
	for _, names := range [][]string{{"a", "aa", "b"}, {"\x00", "\x01", "\x7f", "\u0080", "\uffff", "\U00010000"}, {"A", "Z", "a", "z"}, {"1", "10", "2"}, {strings.Repeat("n", 59), strings.Repeat("n", 59) + "a", strings.Repeat("n", 60)}} {
		targetsInEachOrder(t, names)
	}
	faultAs(t, impl.CodeValue,
		"grid 3 2; station a 0 0; ^station a 1 0", "grid 3 2; station a 0 0; ^charger a 1 0", "grid 3 2; charger a 0 0; ^station a 1 0", "grid 3 2; charger a 0 0; ^charger a 1 0",
		"grid 3 2; station a 0 0; ^station b 0 0", "grid 3 2; station a 0 0; ^charger b 0 0", "grid 3 2; charger a 0 0; ^station b 0 0", "grid 3 2; charger a 0 0; ^charger b 0 0",
		"grid 3 2; station a 0 0; ^station a 0 0", "grid 3 2; station a 0 0; station b 1 0; ^station a 2 0", "grid 3 2; station a 0 0; station b 1 0; ^charger c 0 0",
		"grid 3 2; ^station a 3 0", "grid 3 2; ^station a 0 2", "grid 3 2; ^charger a -1 0", "grid 3 2; ^charger a 0 -1", "grid 3 2; station a 1 0; ^station b 4 -1; station c 0 0", "grid 3 2; ^station a 1000000 -1000000")
	fineAs(t, "grid 3 2; station a 0 0; charger A 1 0", "grid 3 2; station a 0 0; station aa 1 0", "grid 3 2; station a 2 0; station b 0 1")
	for _, kind := range []int{impl.NodeStation, impl.NodeCharger} {
		for _, name := range [][]byte{nil, {}} {
			decls, _ := declsOf(t, "grid 3 2; station a 0 0; station b 1 0; wall 2 0")
			decls[2].Kind, decls[2].Name = kind, name
			denotesFault(t, "an empty name", decls, impl.CodeValue, 2)
			decls[2].X1, decls[2].X2 = 0, 0
			denotesFault(t, "an empty name on a cell that is taken", decls, impl.CodeValue, 2)
			denotesFault(t, "an empty name alone", append(decls[:1:1], decls[2]), impl.CodeValue, 1)
		}
	}
}

// targetsInEachOrder wants targets in the order of their names, whatever order they are declared in.
func targetsInEachOrder(t *testing.T, names []string) {
	t.Helper()
	for turn := range 2 * len(names) {
		decls, _ := declsOf(t, "grid 6 3")
		for i := range names {
			j := (i + turn) % len(names)
			if turn >= len(names) {
				j = len(names) - 1 - j
			}
			decls = append(decls, impl.Decl{Kind: impl.NodeStation + j%2, X1: i, X2: i, Y1: 2, Y2: 2, Name: []byte(names[j])})
		}
		l, code, _ := denoteOf(t, fmt.Sprint(names, turn), decls)
		if code != impl.CodeOK || len(l.Targets) != len(names) {
			t.Fatalf("%q: the test has it wrong", names)
		}
		for i, x := range l.Targets {
			if string(x.Name) != names[i] || x.Kind != i%2 {
				t.Errorf("%q, turn %d: target %d is %v", names, turn, i, x)
			}
		}
	}
}

func manyTargets(n int) []impl.Decl {
	decls := []impl.Decl{{Kind: impl.NodeGrid, X1: 40, Y1: 2, X2: 40, Y2: 2}}
	for i := range n {
		decls = append(decls, impl.Decl{Kind: impl.NodeStation + i%2, X1: i, X2: i, Name: []byte{byte('~' - i)}})
	}
	return decls
}

func TestDenoteManyTargets(t *testing.T) {
	for _, n := range []int{1, 29, 30} {
		if l, code, at := denoteOf(t, fmt.Sprint(n, " targets"), manyTargets(n)); code != impl.CodeOK || at != 0 || len(l.Targets) != n {
			t.Errorf("%d targets: %d at %d", n, code, at)
		}
	}
	for _, n := range []int{31, 32, 40} {
		denotesFault(t, fmt.Sprint(n, " targets"), manyTargets(n), impl.CodeLimit, 31)
	}
	between := slices.Insert(manyTargets(31), 31, declOf(t, []string{"wall", "0", "1"}))
	denotesFault(t, "a wall ahead of the one more", between, impl.CodeLimit, 32)
	for what, change := range map[string]func(d *impl.Decl){
		"a name that is there":       func(d *impl.Decl) { d.Name = []byte("~") },
		"the name just ahead of it":  func(d *impl.Decl) { d.Name = []byte{'~' - 29} },
		"an empty name":              func(d *impl.Decl) { d.Name = nil },
		"a cell that is taken":       func(d *impl.Decl) { d.X1, d.X2 = 29, 29 },
		"a cell out of the grid":     func(d *impl.Decl) { d.X1, d.X2 = 40, 40 },
		"a row out of the grid":      func(d *impl.Decl) { d.Y1, d.Y2 = 2, 2 },
		"a cell far out of the grid": func(d *impl.Decl) { d.Y1, d.Y2 = -1000000, -1000000 },
		"all of it":                  func(d *impl.Decl) { d.X1, d.X2, d.Name = 40, 40, nil },
	} {
		decls := manyTargets(31)
		change(&decls[31])
		denotesFault(t, "one more with "+what, decls, impl.CodeValue, 31)
		decls[31].Kind = impl.NodeCharger
		denotesFault(t, "one more charger with "+what, decls, impl.CodeValue, 31)
	}
	walled := append(manyTargets(30), declOf(t, []string{"wall", "0", "0", "39", "0"}), declOf(t, []string{"charger", "one", "35", "0"}))
	denotesFault(t, "one more on a wall", walled, impl.CodeLimit, 32)
	walled[32].X1, walled[32].X2 = 3, 3
	denotesFault(t, "one more on a wall that is taken", walled, impl.CodeValue, 32)
	denotesFault(t, "thirty on walls", walled[:32], impl.CodeValue, 1)
}

func TestDenoteTargetsOnWalls(t *testing.T) {
	faultAs(t, impl.CodeValue,
		"grid 3 2; wall 0 0; ^station a 0 0", "grid 3 2; ^station a 0 0; wall 0 0", "grid 3 2; wall 0 0; ^charger a 0 0", "grid 3 2; ^charger a 0 0; wall 0 0",
		"grid 3 2; ^station a 0 0; wall 0 0; open 0 0; wall 0 0", "grid 3 2; wall 0 0 2 1; ^charger a 0 0; open 1 0 2 1", "grid 3 2; ^station a 1 1; open 0 0 2 1; wall 0 0 2 1; open 0 0 2 0",
		"grid 3 2; ^station b 1 1; station a 0 0; wall 0 0 2 1", "grid 3 2; wall 0 0 2 1; ^station b 1 1; station a 0 0", "grid 3 2; ^station a 1 1; station b 0 0; wall 0 0 2 1", "grid 3 2; ^charger c 2 1; station a 0 0; charger b 1 0; wall 2 1 0 0",
		"grid 3 2; station b 1 1; ^station a 0 0; wall 0 0", "grid 3 2; station b 1 1; ^charger a 0 0; station c 2 0; wall 0 0 2 0", "grid 3 2; station a 0 0; wall 1 1; ^charger b 1 1; wall 2 0; charger c 2 0", "grid 3 2; station c 0 0; station b 1 0; ^station a 2 0; wall 2 0 2 1",
		// What is met on the way comes ahead of what is seen at the end.
		"grid 3 2; station a 0 0; wall 0 0; ^wall 3 0", "grid 3 2; station a 0 0; wall 0 0; ^grid 3 2", "grid 3 2; wall 0 0; station a 0 0; ^station a 1 0", "grid 3 2; wall 0 0; station a 0 0; ^charger b 0 0; open 0 0", "grid 3 2; wall 0 0; station a 0 0; ^zone 0 0 cost 10")
	fineAs(t, "grid 3 2; station a 0 0; wall 0 0; open 0 0", "grid 3 2; wall 0 0; station a 0 0; open 0 0", "grid 3 2; wall 0 0; charger a 0 0; zone 0 0 cost 3; open 0 0 2 1", "grid 3 2; wall 0 0 2 1; open 0 0; station a 0 0", "grid 3 2; station a 0 0; wall 1 0 2 1; wall 0 1", "grid 3 2; wall 0 0 2 1; station a 2 1; charger b 0 0; open 2 1; open 0 0")
}

// Of the first two declarations with a fault, the first is answered.
func TestDenoteFirstFault(t *testing.T) {
	fault := []string{"grid 3 2", "wall 3 0", "open 0 2", "lane -1 0 east", "gate 0 -1 east", "bar 3 2 west", "zone 0 0 cost 0", "zone 3 0 cost 1", "station s 0 0", "charger t 2 1", "charger s 0 1"}
	fine := []string{"wall 0 0", "open 0 0", "lane 0 0 east", "station u 0 1", "zone 1 1 cost 9"}
	for _, a := range fault {
		for _, b := range fault {
			for _, c := range fine {
				faultAs(t, impl.CodeValue, "grid 3 2; station t 0 0; station s 2 1; ^"+a+"; "+b, "grid 3 2; station t 0 0; station s 2 1; "+c+"; ^"+a+"; "+c+"; "+b)
			}
		}
	}
}

// Every field of every kind at its bounds and beyond, first, in the middle and last, with faults of the carrying out
// ahead of it and behind it.
func TestDenoteOfOddDeclarations(t *testing.T) {
	bases := "wall 1 0; open 1 0; lane 1 0 east; gate 1 0 south; bar 1 0 west; zone 1 0 cost 3; station a 1 0; charger a 1 0; grid 3 2"
	values := []int{math.MinInt, -1 << 32, -1000001, -1000000, -1, 0, 1, 2, 3, 4, 9, 10, 256, 1000000, 1000001, 1 << 32, 1<<32 + 1, math.MaxInt}
	names := []string{"", "a", "\n", strings.Repeat("n", 60), strings.Repeat("å", 30), strings.Repeat("n", 61), strings.Repeat("å", 31), "\xff", "a\xc3", "\xed\xa0\x80", "\xc0\x80", "\xf4\x90\x80\x80"}
	odd := 0
	lay := func(d impl.Decl) {
		if isOddDecl(d) {
			odd++
		}
		denotesAnywhere(t, d)
	}
	all, _ := declsOf(t, bases)
	for _, base := range all {
		for _, n := range values {
			for field := range 9 {
				d := base
				for i, p := range []*int{&d.X1, &d.Y1, &d.X2, &d.Y2, &d.Dir, &d.Cost, &d.Kind} {
					if i == field || field == 7 && (i == 0 || i == 2) || field == 8 && (i == 1 || i == 3) {
						*p = n
					}
				}
				lay(d)
			}
		}
		for _, name := range names {
			d := base
			d.Name = []byte(name)
			lay(d)
		}
	}
	for kind := -1; kind < 26; kind++ {
		lay(impl.Decl{Kind: kind, X1: 1, Y1: 1, X2: 1, Y2: 1})
	}
	if odd < 500 {
		t.Errorf("%d odd declarations are too few", odd)
	}
}

func denotesAnywhere(t *testing.T, d impl.Decl) {
	t.Helper()
	what := fmt.Sprintf("%+v", d)
	around, _ := declsOf(t, "grid 3 2; wall 0 0; open 0 0; station s 2 1")
	for i := range len(around) + 1 {
		denoteOf(t, what, slices.Insert(slices.Clone(around), i, d))
	}
	denoteOf(t, what, []impl.Decl{d})
	if isOddDecl(d) {
		for _, text := range []string{"grid 3 2", "wall 9 9", "grid 0 0; grid 3 2", "grid 3 2; wall 9 9", "grid 3 2; station s 0 0; station s 0 0", "grid 3 2; wall 0 0; station s 0 0"} {
			around, _ := declsOf(t, text)
			for i := range len(around) + 1 {
				denotesFault(t, what, slices.Insert(slices.Clone(around), i, d), impl.CodeBad, 0)
			}
		}
	}
}

func TestDenoteOfOddDeclarationsCases(t *testing.T) {
	type decl = impl.Decl
	cases := map[string]decl{
		"a kind before NodeGrid":            {Kind: impl.NodeIf},
		"a kind behind NodeCharger":         {Kind: impl.NodeInt},
		"the kind of a program":             {},
		"a kind below all":                  {Kind: -1},
		"a great X1":                        {Kind: impl.NodeWall, X1: 1000001},
		"a great Y1":                        {Kind: impl.NodeWall, Y1: 1000001},
		"a great X2":                        {Kind: impl.NodeWall, X2: 1000001},
		"a great Y2":                        {Kind: impl.NodeWall, Y2: 1000001},
		"a great cost":                      {Kind: impl.NodeZone, Cost: 1000001},
		"a low X1":                          {Kind: impl.NodeOpen, X1: -1000001},
		"a low Y1":                          {Kind: impl.NodeOpen, Y1: -1000001},
		"a low X2":                          {Kind: impl.NodeLane, X2: -1000001},
		"a low Y2":                          {Kind: impl.NodeLane, Y2: -1000001},
		"a low cost":                        {Kind: impl.NodeZone, Cost: -1000001},
		"a grid with an area, by columns":   {Kind: impl.NodeGrid, X1: 1, Y1: 1, X2: 2, Y2: 1},
		"a grid with an area, by rows":      {Kind: impl.NodeGrid, X1: 1, Y1: 1, X2: 1, Y2: 2},
		"a grid with one corner":            {Kind: impl.NodeGrid, X1: 1, Y1: 1},
		"a gate with an area":               {Kind: impl.NodeGate, X2: 1},
		"a bar with an area":                {Kind: impl.NodeBar, Y2: 1},
		"a station with an area":            {Kind: impl.NodeStation, X2: 1, Name: []byte("a")},
		"a charger with an area":            {Kind: impl.NodeCharger, Y2: 1, Name: []byte("a")},
		"a grid with a way":                 {Kind: impl.NodeGrid, X1: 1, Y1: 1, X2: 1, Y2: 1, Dir: 1},
		"a wall with a way":                 {Kind: impl.NodeWall, Dir: 1},
		"an opening with a way":             {Kind: impl.NodeOpen, Dir: 3},
		"a zone with a way":                 {Kind: impl.NodeZone, Dir: 1, Cost: 1},
		"a station with a way":              {Kind: impl.NodeStation, Dir: 1, Name: []byte("a")},
		"a charger with a way":              {Kind: impl.NodeCharger, Dir: -1, Name: []byte("a")},
		"a lane with a fifth way":           {Kind: impl.NodeLane, Dir: 4},
		"a gate with a fifth way":           {Kind: impl.NodeGate, Dir: 4},
		"a bar with a fifth way":            {Kind: impl.NodeBar, Dir: 4},
		"a lane with a way below all":       {Kind: impl.NodeLane, Dir: -1},
		"a gate with a way below all":       {Kind: impl.NodeGate, Dir: -1},
		"a bar with a way below all":        {Kind: impl.NodeBar, Dir: math.MinInt},
		"a grid with a cost":                {Kind: impl.NodeGrid, X1: 1, Y1: 1, X2: 1, Y2: 1, Cost: 1},
		"a wall with a cost":                {Kind: impl.NodeWall, Cost: 1},
		"an opening with a cost":            {Kind: impl.NodeOpen, Cost: 1},
		"a lane with a cost":                {Kind: impl.NodeLane, Cost: 1},
		"a gate with a cost":                {Kind: impl.NodeGate, Cost: -1},
		"a bar with a cost":                 {Kind: impl.NodeBar, Cost: 9},
		"a station with a cost":             {Kind: impl.NodeStation, Cost: 1, Name: []byte("a")},
		"a charger with a cost":             {Kind: impl.NodeCharger, Cost: 1, Name: []byte("a")},
		"a grid with a name":                {Kind: impl.NodeGrid, X1: 1, Y1: 1, X2: 1, Y2: 1, Name: []byte("a")},
		"a wall with a name":                {Kind: impl.NodeWall, Name: []byte("a")},
		"an opening with a name":            {Kind: impl.NodeOpen, Name: []byte("a")},
		"a lane with a name":                {Kind: impl.NodeLane, Name: []byte("a")},
		"a gate with a name":                {Kind: impl.NodeGate, Name: []byte("a")},
		"a bar with a name":                 {Kind: impl.NodeBar, Name: []byte("a")},
		"a zone with a name":                {Kind: impl.NodeZone, Cost: 1, Name: []byte("a")},
		"a station, its name cut off":       {Kind: impl.NodeStation, Name: []byte("a\xc3")},
		"a charger, its name no text":       {Kind: impl.NodeCharger, Name: []byte("\xff")},
		"a station with too long a name":    {Kind: impl.NodeStation, Name: []byte(strings.Repeat("n", 61))},
		"a charger with too long a name":    {Kind: impl.NodeCharger, Name: []byte(strings.Repeat("å", 31))},
		"a station of a surrogate for name": {Kind: impl.NodeStation, Name: []byte("\xed\xa0\x80")},
	}
	for what, d := range cases {
		denotesFault(t, what, []decl{d}, impl.CodeBad, 0)
		grid, _ := declsOf(t, "grid 3 2")
		denotesFault(t, what, append(grid, d), impl.CodeBad, 0)
		faulty, _ := declsOf(t, "wall 7 7; grid 0 0; station s 9 9")
		denotesFault(t, what, append(faulty, d), impl.CodeBad, 0)
	}
}

func TestDenoteOfMostDeclarations(t *testing.T) {
	decls, _ := declsOf(t, "grid 2 2")
	for i := range 9001 {
		decls = append(decls, declOf(t, strings.Fields(fmt.Sprint("zone 0 0 1 1 cost ", 1+i%9))))
	}
	if l, code, at := denoteOf(t, "9000 declarations", decls[:9000]); code != impl.CodeOK || at != 0 || l.Cost[0] != 1+8998%9 {
		t.Errorf("9000 declarations: %v, %d at %d", l, code, at)
	}
	denotesFault(t, "9001 declarations", decls[:9001], impl.CodeBad, 0)
	denotesFault(t, "9002 declarations", decls, impl.CodeBad, 0)
	denotesFault(t, "9000 declarations and no grid", decls[1:9001], impl.CodeValue, 0)
	denotesFault(t, "9001 declarations and no grid", decls[1:9002], impl.CodeBad, 0)
	decls[8999].Cost = 10
	denotesFault(t, "a fault in the last one", decls[:9000], impl.CodeValue, 8999)
	decls[8999].Cost = 1000001
	denotesFault(t, "the last one is odd", decls[:9000], impl.CodeBad, 0)
	decls[1].Cost = 0
	denotesFault(t, "the last one is odd, and the second has a fault", decls[:9000], impl.CodeBad, 0)
}

// The most that declarations can ask for.
func TestDenoteOfGreatAreas(t *testing.T) {
	decls, _ := declsOf(t, "grid 40 40")
	for i := range 8999 {
		d := impl.Decl{Kind: impl.NodeWall, X1: 39, Y1: 39}
		switch i % 4 {
		case 1:
			d.Kind = impl.NodeOpen
		case 2:
			d.Kind, d.Dir = impl.NodeLane, i/4%4
		case 3:
			d.Kind, d.Cost = impl.NodeZone, 1+i/4%9
		}
		decls = append(decls, d)
	}
	l, code, at := impl.Denote(decls)
	want := wantLayout(slices.Concat(decls[:1], decls[len(decls)-8:]))
	if code != impl.CodeOK || at != 0 || !sameLayout(l, want) {
		t.Errorf("%v, %d at %d", l, code, at)
	}
}

func TestDenoteLeavesNodeAside(t *testing.T) {
	for _, text := range []string{"grid 3 2; wall 0 0; lane 1 0 2 1 east; zone 1 1 cost 4; station a 2 0", "grid 3 2; ^wall 3 3", "grid 3 2; station b 1 1; wall 0 0; ^charger a 0 0", "wall 1 1"} {
		decls, mark := declsOf(t, text)
		want, code, at := wantDenote(decls)
		for _, node := range []int{math.MinInt, -1, 0, 1, 3999, 4000, math.MaxInt} {
			for i := range decls {
				decls[i].Node = node
				if got, c, a := impl.Denote(decls); c != code || a != at || a != mark || !sameLayout(got, want) {
					t.Errorf("%s, node %d: %v, %d at %d", text, node, got, c, a)
				}
			}
		}
	}
}

// Every row of up to three declarations out of these.
func TestDenoteOfAllShortRows(t *testing.T) {
	texts := "wall 0 0; wall 1 0 0 0; open 0 0; open 0 0 1 0; lane 0 0 east; lane 0 0 1 0 west; gate 0 0 east; gate 1 0 north; bar 0 0 east; bar 1 0 west; zone 0 0 cost 5; zone 1 0 0 0 cost 1; zone 1 0 cost 10; station a 0 0; charger a 1 0; charger b 0 0; station b 1 0; grid 2 1; wall 2 0; station c 0 1"
	pieces, _ := declsOf(t, texts)
	var visit func(row []impl.Decl, most int)
	visit = func(row []impl.Decl, most int) {
		denoteOf(t, listed(row), row)
		if most == 0 || t.Failed() {
			return
		}
		for _, d := range pieces {
			visit(append(slices.Clone(row), d), most-1)
		}
	}
	grid, _ := declsOf(t, "grid 2 1")
	visit(grid, 3)
	visit(nil, 2)
}

func TestDenoteOfManyDeclarations(t *testing.T) {
	codes := map[int]int{}
	for seed := range int64(20000) {
		w := newSurveyor(seed)
		decls := w.decls([]int{0, 60, 20}[seed%3])
		if w.oneOf(30) {
			w.slip(&decls[0])
		}
		_, code, _ := denoteOf(t, declText(decls), decls)
		codes[code]++
		if t.Failed() {
			return
		}
	}
	if codes[impl.CodeOK] < 2000 || codes[impl.CodeValue] < 2000 || codes[impl.CodeBad] < 1000 {
		t.Errorf("too few of a sort: %v", codes)
	}
}
