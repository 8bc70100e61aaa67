package tests

import (
	"bytes"
	"fmt"
	"strings"
	"testing"

	"loop.example/s02126/impl"
)

func TestCompileOfTheExample(t *testing.T) {
	image, code, line, col := impl.Compile([]byte(exampleSource))
	if code != impl.CodeOK || line != 0 || col != 0 {
		t.Fatalf("%d at %d, %d", code, line, col)
	}
	x, code := impl.DecodeImage(image)
	want := tablesFrom(t, "S - - 1> 0 / - - 2^ 1^ / - - - -")
	want.Targets[0].Name = []byte("A1")
	if code != impl.CodeOK || !sameTables(x, want) || !bytes.Equal(image, rawImage(want)) {
		t.Errorf("%s, %d", tablesText(x), code)
	}
}

// A source with no target has an image too: that of tables without any.
func TestCompileWithoutTargets(t *testing.T) {
	for _, sides := range [][2]int{{1, 1}, {40, 1}, {1, 40}, {40, 40}, {7, 3}} {
		src := fmt.Sprintf("grid %d, %d;", sides[0], sides[1])
		image, code, line, col := impl.Compile([]byte(src))
		want := sealed([]byte{'W', 'H', 'L', '1', byte(sides[0]), 0, byte(sides[1]), 0, 0, 0})
		if (verdict{code, line, col}) != (verdict{}) || !bytes.Equal(image, want) {
			t.Errorf("%s: %s, %d at %d, %d", src, imageText(image), code, line, col)
		}
	}
}

// everyFloor visits all valid layouts of a grid with these costs and no target.
func everyFloor(w, h int, costs []int, visit func(l impl.Layout)) {
	var leave func(l impl.Layout)
	leave = func(l impl.Layout) {
		cell := len(l.Exits)
		if cell == w*h {
			visit(l)
			return
		}
		var ways []int
		if l.Cost[cell] != 0 {
			ways = leading(l, spot{cell % w, cell / w})
		}
		for _, exits := range sumsOf(ways) {
			grown := l
			grown.Exits = append(l.Exits[:cell:cell], exits)
			leave(grown)
		}
	}
	allLists(costs, w*h, func(cost []int) { leave(impl.Layout{W: w, H: h, Cost: cost}) })
}

// By the image each cell's walk to a target is a shortest way: on small floors all ways are gone through.
func TestCompiledWalksOnAllSmallFloors(t *testing.T) {
	floors := 0
	for _, sides := range [][2]int{{1, 1}, {2, 1}, {1, 2}, {3, 1}, {2, 2}, {4, 1}, {1, 4}} {
		everyFloor(sides[0], sides[1], []int{0, 1, 3}, func(l impl.Layout) {
			floors++
			for cell, cost := range l.Cost {
				if cost != 0 {
					l.Targets = append(l.Targets, target(string(rune('a'+cell)), cell%2, cell))
				}
			}
			image, _, _, _ := impl.Compile(impl.Rewrite(l))
			walksAreShortest(t, fmt.Sprint(l), l, image, plainRoute)
		})
	}
	if floors < 5000 {
		t.Errorf("%d floors", floors)
	}
}

func TestCompiledWalksOnMadeFloors(t *testing.T) {
	ways, none := 0, 0
	for seed := range int64(400) {
		w := newRestater(330000 + seed)
		l := w.layout(3)
		src := w.source(l)
		if len(src) > 5000 {
			continue
		}
		image, code, _, _ := impl.Compile([]byte(src))
		if code != impl.CodeOK {
			t.Fatalf("%s: %d", src, code)
		}
		walksAreShortest(t, src, l, image, plainRoute)
		x, _ := wantTables(l)
		for _, dist := range x.Dist {
			for _, d := range dist {
				if d < 0 {
					none++
				} else {
					ways++
				}
			}
		}
	}
	if ways < 500 || none < 500 {
		t.Errorf("%d ways, %d times none", ways, none)
	}
	for seed := range int64(60) {
		w := newRestater(340000 + seed)
		l := w.layout(12)
		if text := impl.Rewrite(l); len(text) > 0 {
			image, _, _, _ := impl.Compile(text)
			walksAreShortest(t, string(text), l, image, wantRoute)
		}
	}
	l := surveyFine(t, greatSource)[0]
	image, _, _, _ := impl.Compile([]byte(greatSource))
	walksAreShortest(t, "the greatest", l, image, wantRoute)
}

// greatSource has the greatest grid and the most targets, with long ways between them.
const greatSource = `
// a floor as great as it can be
macro shelf(int x, int from, int to_) { if x % 4 == 1 { wall x, from to x, to_ - 1; } else { wall x, from + 1 to x, to_; } }
macro dock(int n, text what) {
  if n % 2 == 0 { station what & n at n, 0; } else { charger what & n at n, 39; }
}
grid 40, 40;
for x = 0 to 39 { if x % 2 == 1 { call shelf(x, 0, 39); } }
open 0, 39 to 39, 39; open 0, 0 to 39, 0;
wall 5, 0; wall 7, 39;
lane 0, 39 to 39, 39 east;
for y = 1 to 38 { zone 0, y to 38, y cost y % 9 + 1; }
gate 20, 39 west;
bar 2, 5 north;
for n = 8 to 37 { call dock(n, "dock "); }
`

// sameImages wants all sources to have one layout and one image, and answers the image.
func sameImages(t *testing.T, sources ...string) []byte {
	t.Helper()
	first, _ := surveyOf(t, sources[0])
	image, code, _, _ := impl.Compile([]byte(sources[0]))
	if code != impl.CodeOK || len(image) == 0 {
		t.Fatalf("%s: %d", sourceText(sources[0]), code)
	}
	for _, src := range sources[1:] {
		l, told := surveyOf(t, src)
		if told != (verdict{}) || !sameLayout(l, first) {
			t.Errorf("%s: the test has it wrong, %v, %v", sourceText(src), told, l)
		}
		if got, code, _, _ := impl.Compile([]byte(src)); code != impl.CodeOK || !bytes.Equal(got, image) {
			t.Errorf("%s: %s, %d, not %s", sourceText(src), imageText(got), code, imageText(image))
		}
	}
	if text := rewriteOf(t, sources[0], first); text != "" {
		if got, _, _, _ := impl.Compile([]byte(text)); !bytes.Equal(got, image) {
			t.Errorf("%s: another image", text)
		}
	}
	return image
}

func TestCompileOfSourcesThatMeanTheSame(t *testing.T) {
	groups := [][]string{
		{ // blanks, comments, forms of numbers and texts
			"grid 3, 2; station \"A\" at 1, 1; wall 0, 0;", "grid 3,2;station\"A\"at 1,1;wall 0,0;", "\n\n// å\ngrid 3 , 2 ;/* wall 1, 1; */\r\n\tstation\n\"\\u{41}\" at 1, 01; wall 0, 00; //", "grid 1 + 2, 8 / 4; station \"\" & \"A\" at 3 - 2, 7 % 2; wall -0, 1 * 0;", "grid 3, 2; station \"\\u{000041}\" at (1), ((1)); wall (0), 0;",
		},
		{ // macros, loops, conditions
			"grid 4, 2; wall 0, 0; wall 1, 0; wall 2, 0; charger \"c1\" at 3, 1;", "grid 4, 2; for i = 0 to 2 { wall i, 0; } charger \"c\" & 1 at 3, 1;", "macro w(int x) { wall x, 0; } grid 4, 2; call w(2); call w(0); call w(1); charger \"c1\" at 3, 1;", "grid 4, 2; for i = 0 to 9 { if i < 3 { wall i, 0; } else if i == 3 { charger \"c\" & i - 2 at i, 1; } }", "macro w(int n) { if n > 0 { wall n - 1, 0; call w(n - 1); } } if true { grid 4, 2; } call w(3); charger \"c1\" at 3, 1;", "let w = 4; grid w, w / 2; wall 0, 0 to w - 2, 0; let n = \"c1\"; charger n at w - 1, 1;", "grid 4, 2; wall 2, 0 to 0, 0; charger \"c1\" at 3, 1;", "grid 4, 2; wall 0, 0 to 3, 1; open 3, 0; open 0, 1 to 3, 1; charger \"c1\" at 3, 1;",
		},
		{ // declarations in another order that changes nothing
			"grid 3, 3; wall 1, 1; zone 0, 0 cost 4; lane 2, 0 to 2, 2 south; station \"a\" at 0, 2; charger \"b\" at 2, 2;", "grid 3, 3; charger \"b\" at 2, 2; station \"a\" at 0, 2; lane 2, 0 to 2, 2 south; zone 0, 0 cost 4; wall 1, 1;", "grid 3, 3; station \"a\" at 0, 2; wall 1, 1; charger \"b\" at 2, 2; bar 2, 0 west; bar 2, 1 north; bar 2, 1 west; bar 2, 2 west; bar 2, 2 north; zone 0, 0 cost 4;",
		},
		{ // what is undone, and what leads nowhere
			"grid 2, 2; station \"x\" at 0, 0;", "grid 2, 2; wall 0, 0 to 1, 1; open 1, 1 to 0, 0; station \"x\" at 0, 0;", "grid 2, 2; zone 0, 0 to 1, 1 cost 9; zone 0, 0 to 1, 1 cost 1; station \"x\" at 0, 0;", "grid 2, 2; lane 0, 0 east; gate 0, 0 south; station \"x\" at 0, 0;", "grid 2, 2; bar 0, 0 east; gate 0, 0 east; station \"x\" at 0, 0;", "grid 2, 2; bar 0, 0 north; bar 0, 0 west; bar 1, 1 east; station \"x\" at 0, 0;", "grid 2, 2; station \"x\" at 0, 0; wall 0, 0; open 0, 0;",
		},
		{ // what is under a wall does not matter
			"grid 3, 1; wall 1, 0; station \"x\" at 2, 0;", "grid 3, 1; wall 1, 0; zone 1, 0 cost 9; station \"x\" at 2, 0;", "grid 3, 1; lane 1, 0 east; wall 1, 0; station \"x\" at 2, 0;", "grid 3, 1; wall 1, 0; bar 0, 0 east; bar 2, 0 west; station \"x\" at 2, 0;",
		},
	}
	images := map[string]int{}
	for i, sources := range groups {
		images[string(sameImages(t, sources...))] = i
	}
	if len(images) != len(groups) {
		t.Errorf("groups with other layouts have %d images", len(images))
	}
}

func TestCompileOfOtherLayouts(t *testing.T) {
	images := map[string]string{}
	for _, src := range []string{
		"grid 2, 1; station \"x\" at 1, 0;", "grid 2, 1; bar 0, 0 east; station \"x\" at 1, 0;", "grid 2, 1; charger \"x\" at 1, 0;", "grid 2, 1; station \"y\" at 1, 0;", "grid 2, 1; station \"x\" at 0, 0;", "grid 1, 2; station \"x\" at 0, 1;",
		"grid 2, 1; zone 1, 0 cost 2; station \"x\" at 1, 0;", "grid 2, 1;", "grid 1, 2;", "grid 2, 2; station \"x\" at 1, 0;", "grid 2, 1; station \"x\" at 1, 0; station \"y\" at 0, 0;", "grid 2, 1; station \"x \" at 1, 0;",
	} {
		surveyFine(t, src)
		image, _, _, _ := impl.Compile([]byte(src))
		if other, ok := images[string(image)]; ok {
			t.Errorf("%s has the image of %s", src, other)
		}
		images[string(image)] = src
	}
}

func TestCompileOfRestatedLayouts(t *testing.T) {
	tried, kinds := 0, map[int]bool{}
	for seed := range int64(250) {
		w := newSurveyor(350000 + seed)
		l := w.layout(5)
		x, _ := wantTables(l)
		for k := range int64(3) {
			src := newRestater(10*seed + k).source(l)
			if len(src) > 5000 {
				continue
			}
			tried++
			got, told := surveyOf(t, src)
			if told != (verdict{}) || !sameLayout(got, l) {
				t.Fatalf("%s: the test has it wrong, %v, %v, not %v", src, told, got, l)
			}
			if image, _, _, _ := impl.Compile([]byte(src)); !bytes.Equal(image, rawImage(x)) {
				t.Fatalf("%s: another image", src)
			}
			tree, _, _, _ := impl.Parse([]byte(src))
			for _, n := range tree {
				kinds[n.Kind] = true
			}
		}
	}
	for _, kind := range []int{impl.NodeMacro, impl.NodeCall, impl.NodeFor, impl.NodeIf, impl.NodeLet, impl.NodeZone, impl.NodeBar, impl.NodeStation, impl.NodeCharger, impl.NodeWall, impl.NodeOpen} {
		if !kinds[kind] {
			t.Errorf("no node of kind %d", kind)
		}
	}
	if tried < 500 {
		t.Errorf("%d tried", tried)
	}
}

func TestCompileOfTheGreatest(t *testing.T) {
	l := surveyFine(t, greatSource)[0]
	if l.W != 40 || l.H != 40 || len(l.Targets) != 30 {
		t.Errorf("%d by %d, %d targets", l.W, l.H, len(l.Targets))
	}
	image := sameImages(t, greatSource, strings.ReplaceAll(greatSource, "\n", "\n\n"))
	x, code := impl.DecodeImage(image)
	if code != impl.CodeOK || len(x.Targets) != 30 || len(image) != wantSize(x) {
		t.Errorf("%d bytes, %d", len(image), code)
	}
}
