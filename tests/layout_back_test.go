package tests

import (
	"bytes"
	"fmt"
	"slices"
	"strings"
	"testing"

	"loop.example/s02126/impl"
)

func layoutOf(t *testing.T, text string) impl.Layout {
	t.Helper()
	decls, _ := declsOf(t, text)
	l, code, _ := denoteOf(t, text, decls)
	if code != impl.CodeOK {
		t.Fatalf("%s: the test has it wrong, %d", text, code)
	}
	return l
}

// declsAs wants a layout to have these declarations.
func declsAs(t *testing.T, text, want string) {
	t.Helper()
	l := layoutOf(t, text)
	layoutGood(t, text, l)
	decls := impl.LayoutDecls(l)
	if got := listed(decls); got != want {
		t.Errorf("%s: %s, not %s", text, got, want)
	}
	for i, d := range decls {
		if d.Node != 0 || d.X1 != d.X2 || d.Y1 != d.Y2 {
			t.Errorf("%s: declaration %d is %+v", text, i, d)
		}
	}
}

func TestLayoutDeclsCases(t *testing.T) {
	declsAs(t, "grid 1 1", "grid 1,1")
	declsAs(t, "grid 1 1; wall 0 0", "grid 1,1; wall 0,0")
	declsAs(t, "grid 1 1; zone 0 0 cost 9; station a 0 0", `grid 1,1; zone 0,0 cost 9; station 0,0 "a"`)
	declsAs(t, "grid 1 1; bar 0 0 north; lane 0 0 east", "grid 1,1")
	declsAs(t, "grid 4 1; lane 0 0 3 0 east; wall 2 0", "grid 4,1; bar 1,0 west; wall 2,0")
	declsAs(t, "grid 4 1; lane 0 0 3 0 east", "grid 4,1; bar 1,0 west; bar 2,0 west; bar 3,0 west")
	declsAs(t, "grid 1 4; lane 0 0 0 3 north; zone 0 1 cost 2", "grid 1,4; bar 0,0 south; zone 0,1 cost 2; bar 0,1 south; bar 0,2 south")
	declsAs(t, "grid 3 2", "grid 3,2")
	declsAs(t, "grid 2 3; wall 0 0 1 2", "grid 2,3; wall 0,0; wall 1,0; wall 0,1; wall 1,1; wall 0,2; wall 1,2")
	declsAs(t, "grid 2 3; wall 0 0 1 2; zone 0 0 1 2 cost 5; lane 0 0 1 2 east", "grid 2,3; wall 0,0; wall 1,0; wall 0,1; wall 1,1; wall 0,2; wall 1,2")
	declsAs(t, "grid 3 3; zone 1 1 cost 3; bar 1 1 north; bar 1 1 east; bar 1 1 south; bar 1 1 west", "grid 3,3; zone 1,1 cost 3; bar 1,1; bar 1,1 east; bar 1,1 south; bar 1,1 west")
	declsAs(t, "grid 3 3; bar 1 1 west; bar 1 1 south; bar 1 1 east; bar 1 1 north; wall 1 0", "grid 3,3; wall 1,0; bar 1,1 east; bar 1,1 south; bar 1,1 west")
	declsAs(t, "grid 3 2; charger b 2 1; station c 0 0; station a 1 0; zone 1 0 cost 2", `grid 3,2; zone 1,0 cost 2; station 1,0 "a"; charger 2,1 "b"; station 0,0 "c"`)
	declsAs(t, "grid 3 2; wall 0 1; station z 2 1; zone 2 0 cost 1; zone 2 1 cost 8; lane 2 1 west", `grid 3,2; wall 0,1; zone 2,1 cost 8; bar 2,1; station 2,1 "z"`)
}

// backAndForth wants a valid layout to come back from its declarations, and these to be what the document has.
func backAndForth(t *testing.T, what string, l impl.Layout) {
	t.Helper()
	layoutGood(t, what, l)
	comesBack(t, what, l)
}

// All valid layouts of four cells in a square or a row with these costs.
func TestLayoutDeclsOfAllSmallLayouts(t *testing.T) {
	count := 0
	var fill func(l impl.Layout, cell int)
	fill = func(l impl.Layout, cell int) {
		if cell == 4 {
			count++
			backAndForth(t, fmt.Sprint(l), l)
			return
		}
		var ways []int
		if l.Cost[cell] != 0 {
			ways = leading(l, spotsOf(l.W, l.H)[cell])
		}
		for _, exits := range sumsOf(ways) {
			l.Exits[cell] = exits
			fill(l, cell+1)
		}
	}
	for _, w := range []int{1, 2, 4} {
		for n := range 81 {
			of := []int{0, 1, 4}
			costs := []int{of[n%3], of[n/3%3], of[n/9%3], of[n/27]}
			fill(impl.Layout{W: w, H: 4 / w, Cost: costs, Exits: make([]int, 4)}, 0)
		}
		if t.Failed() {
			return
		}
	}
	if count < 5000 {
		t.Errorf("%d layouts", count)
	}
}

func TestLayoutDeclsOfMadeLayouts(t *testing.T) {
	for seed := range int64(2000) {
		l := newSurveyor(90000 + seed).layout(8)
		backAndForth(t, fmt.Sprint(l), l)
	}
	for seed := range int64(20) {
		l := newSurveyor(99000 + seed).layout(40)
		backAndForth(t, fmt.Sprint("seed ", seed), l)
	}
}

// The layout with the most declarations: they are fewer than Denote takes.
func TestLayoutDeclsOfGreatestLayout(t *testing.T) {
	l := openLayout(40, 40)
	for cell := range l.Cost {
		l.Cost[cell] = 2 + cell%8
		l.Exits[cell] = 0
	}
	for i := range 30 {
		l.Targets = append(l.Targets, impl.Target{Name: bytes.Repeat([]byte{byte('A' + i)}, 60), Kind: i % 2, Cell: 1599 - 53*i})
	}
	backAndForth(t, "the greatest", l)
	if n := len(impl.LayoutDecls(l)); n != 1+1600+2*2*39*40+30 {
		t.Errorf("%d declarations", n)
	}
	for _, side := range [][]int{{1, 1}, {1, 40}, {40, 1}, {40, 40}} {
		open := openLayout(side[0], side[1])
		backAndForth(t, fmt.Sprint("open ", side), open)
		if got := listed(impl.LayoutDecls(open)); got != fmt.Sprintf("grid %d,%d", side[0], side[1]) {
			t.Errorf("%v: %s", side, got)
		}
		shut := openLayout(side[0], side[1])
		clear(shut.Exits)
		backAndForth(t, fmt.Sprint("shut ", side), shut)
		clear(shut.Cost)
		backAndForth(t, fmt.Sprint("walls ", side), shut)
		if n := len(impl.LayoutDecls(shut)); n != 1+side[0]*side[1] {
			t.Errorf("%v: %d declarations", side, n)
		}
	}
}

func showAs(t *testing.T, l impl.Layout, want string) {
	t.Helper()
	layoutGood(t, fmt.Sprint(l), l)
	if got := string(impl.ShowLayout(l)); got != want {
		t.Errorf("%v: %s, not %s", l, got, want)
	}
}

func TestShowLayoutCases(t *testing.T) {
	showAs(t, layoutOf(t, "grid 1 1"), ".\n")
	showAs(t, layoutOf(t, "grid 1 1; wall 0 0"), "#\n")
	showAs(t, layoutOf(t, "grid 1 1; station a 0 0"), "S\nstation \"a\" 0 0\n")
	showAs(t, layoutOf(t, "grid 1 1; charger a 0 0; zone 0 0 cost 9"), "C\ncharger \"a\" 0 0\n")
	showAs(t, layoutOf(t, "grid 4 3; wall 1 0 1 1; lane 0 2 3 2 east; station A1 3 0"), ".#.S\n.#..\n....\nstation \"A1\" 3 0\n")
	showAs(t, layoutOf(t, "grid 3 1; station a 2 0; zone 2 0 cost 5; zone 1 0 cost 5"), ".5S\nstation \"a\" 2 0\n")
	showAs(t, layoutOf(t, "grid 1 3; wall 0 1; charger a 0 2; zone 0 1 cost 5; zone 0 0 cost 2"), "2\n#\nC\ncharger \"a\" 0 2\n")
	row := "grid 11 2; wall 10 0"
	for cost := 1; cost <= 9; cost++ {
		row += fmt.Sprintf("; zone %d 0 cost %d", cost, cost)
	}
	showAs(t, layoutOf(t, row), "..23456789#\n...........\n")
	showAs(t, layoutOf(t, "grid 40 1; station b 39 0; charger a 10 0"), strings.Repeat(".", 10)+"C"+strings.Repeat(".", 28)+"S\ncharger \"a\" 10 0\nstation \"b\" 39 0\n")
	showAs(t, layoutOf(t, "grid 1 40; station b 0 39; charger a 0 10"), strings.Repeat(".\n", 10)+"C\n"+strings.Repeat(".\n", 28)+"S\ncharger \"a\" 0 10\nstation \"b\" 0 39\n")
	showAs(t, layoutOf(t, "grid 3 2; station b 2 1; station a 0 1; charger c 1 0"), ".C.\nS.S\nstation \"a\" 0 1\nstation \"b\" 2 1\ncharger \"c\" 1 0\n")
}

func TestShowLayoutOfNames(t *testing.T) {
	for name, want := range map[string]string{
		"a b":                   `"a b"`,
		"\n":                    `"\u{a}"`,
		"\x00":                  `"\u{0}"`,
		"\x1f":                  `"\u{1f}"`,
		"\x7f":                  `"\u{7f}"`,
		"\u0080":                "\"\u0080\"",
		"\"":                    `"\""`,
		`\`:                     `"\\"`,
		"å€😀":                   `"å€😀"`,
		strings.Repeat("n", 60): `"` + strings.Repeat("n", 60) + `"`,
		strings.Repeat("\n", 3): `"\u{a}\u{a}\u{a}"`,
	} {
		l := openLayout(3, 2)
		l.Targets = []impl.Target{target(name, 0, 5)}
		showAs(t, l, "...\n..S\nstation "+want+" 2 1\n")
		l.Targets = []impl.Target{target(name, 1, 3)}
		showAs(t, l, "...\nC..\ncharger "+want+" 0 1\n")
	}
}

func layoutExtents(l impl.Layout) []extent {
	all := []extent{extentOf(l.Cost), extentOf(l.Exits), extentOf(l.Targets)}
	for _, x := range l.Targets {
		all = append(all, extentOf(x.Name))
	}
	return all
}

const crowded = "grid 4 3; wall 1 0 1 1; lane 0 2 3 2 east; zone 3 1 cost 4; station n 3 0; charger name 0 2; station m 0 0; bar 0 0 south"

// roomy answers the same declarations, with others behind them, and with bytes behind each name.
func roomy(decls []impl.Decl) []impl.Decl {
	out := append(copyDecls(decls), impl.Decl{Kind: impl.NodeGrid, Name: []byte("behind")})
	for i, d := range out {
		out[i].Name = append(slices.Clone(d.Name), "behind"...)[:len(d.Name)]
	}
	return out[:len(decls)]
}

func roomyLayout(l impl.Layout) impl.Layout {
	l.Cost = append(slices.Clone(l.Cost), 7)[:len(l.Cost)]
	l.Exits = append(slices.Clone(l.Exits), 7)[:len(l.Exits)]
	l.Targets = append(slices.Clone(l.Targets), target("behind", 7, 7))[:len(l.Targets)]
	for i, x := range l.Targets {
		l.Targets[i].Name = append(slices.Clone(x.Name), "behind"...)[:len(x.Name)]
	}
	return l
}

func behindName(t *testing.T, what string, name []byte) {
	t.Helper()
	if string(name[len(name):len(name)+6]) != "behind" {
		t.Errorf("%s: what lies behind a name is written into", what)
	}
}

func TestDenoteIsNewMemory(t *testing.T) {
	plain, _ := declsOf(t, crowded)
	decls := roomy(plain)
	first, code, _ := impl.Denote(decls)
	second, _, _ := impl.Denote(decls)
	want := copyLayout(first)
	if code != impl.CodeOK || len(first.Targets) != 3 || !sameLayout(second, want) || !sameDecls(decls, plain) {
		t.Fatalf("%v, %d", first, code)
	}
	for _, d := range decls {
		behindName(t, "Denote", d.Name)
	}
	if d := decls[:len(decls)+1][len(decls)]; d.Kind != impl.NodeGrid {
		t.Errorf("what lies behind the declarations is written into: %v", d)
	}
	shareNone(t, "Denote", slices.Concat(declExtents(decls), layoutExtents(first), layoutExtents(second)))
	for i := range decls {
		clear(decls[i].Name)
	}
	clear(decls)
	wipe(first)
	if !sameLayout(second, want) {
		t.Errorf("the layout hangs on the declarations or on another answer")
	}
	if third, _, _ := impl.Denote(plain); !sameLayout(third, want) {
		t.Errorf("an earlier call has left something behind")
	}
}

func wipe(l impl.Layout) {
	for i := range l.Targets {
		clear(l.Targets[i].Name)
	}
	clear(l.Targets)
	clear(l.Cost)
	clear(l.Exits)
}

func TestLayoutAnswersAreNewMemory(t *testing.T) {
	plain := layoutOf(t, crowded)
	l := roomyLayout(plain)
	valid := impl.ValidLayout(l)
	first, second := impl.LayoutDecls(l), impl.LayoutDecls(l)
	shown, again := impl.ShowLayout(l), impl.ShowLayout(l)
	if !valid || !sameDecls(first, second) || !bytes.Equal(shown, again) || !sameLayout(l, plain) {
		t.Fatalf("%v, %v, %s", valid, first, shown)
	}
	for _, x := range l.Targets {
		behindName(t, "a layout", x.Name)
	}
	n := len(l.Cost)
	if l.Cost[:n+1][n] != 7 || l.Exits[:n+1][n] != 7 || l.Targets[:4][3].Cell != 7 {
		t.Errorf("what lies behind a list of the layout is written into")
	}
	shareNone(t, "LayoutDecls and ShowLayout", slices.Concat(layoutExtents(l), declExtents(first), declExtents(second), []extent{extentOf(shown), extentOf(again)}))
	wantText, wantPicture := listed(first), string(shown)
	wipe(l)
	for i := range first {
		clear(first[i].Name)
	}
	clear(first)
	clear(shown)
	if listed(second) != wantText || string(again) != wantPicture {
		t.Errorf("an answer hangs on the layout or on another answer")
	}
	if listed(impl.LayoutDecls(plain)) != wantText || string(impl.ShowLayout(plain)) != wantPicture {
		t.Errorf("an earlier call has left something behind")
	}
}

// A call that refuses leaves nothing behind for the next one.
func TestDenoteKeepsNothing(t *testing.T) {
	fine, _ := declsOf(t, crowded)
	want, _, _ := wantDenote(fine)
	for _, text := range []string{"grid 40 40; station n 3 0; wall 40 0", "grid 4 3; station n 3 0; station name 0 0; charger m 1 1; wall 0 0 3 2", "grid 4 3; zone 0 0 3 2 cost 9; lane 0 0 3 2 north; grid 4 3", "", "station n 0 0"} {
		bad, _ := declsOf(t, text)
		if l, code, _ := impl.Denote(bad); code == impl.CodeOK || !sameLayout(l, impl.Layout{}) {
			t.Errorf("%s: %v, %d", text, l, code)
		}
		if got, code, at := impl.Denote(fine); code != impl.CodeOK || at != 0 || !sameLayout(got, want) {
			t.Errorf("behind %s: %v, %d at %d", text, got, code, at)
		}
	}
}

// From a source by way of all chapters so far.
func TestLayoutOfSource(t *testing.T) {
	tree, _ := treeOf(t, `grid 4, 3; macro shelf(int x) { wall x, 0 to x, 1; } call shelf(1); lane 0, 2 to 3, 2 east; station "A" & 1 at 3, 0;`)
	decls, code, _ := impl.Expand(tree)
	if code != impl.CodeOK {
		t.Fatalf("%d", code)
	}
	l, code, _ := impl.Denote(decls)
	if got := string(impl.ShowLayout(l)); code != impl.CodeOK || got != ".#.S\n.#..\n....\nstation \"A1\" 3 0\n" {
		t.Errorf("%s, %d", got, code)
	}
	backAndForth(t, "the document's example", l)
}
