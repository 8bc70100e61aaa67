package tests

import (
	"bytes"
	"fmt"
	"math"
	"slices"
	"strings"
	"testing"

	"loop.example/s02126/impl"
)

// rewriteAs wants a layout to have these lines.
func rewriteAs(t *testing.T, text string, lines ...string) {
	t.Helper()
	want := strings.Join(lines, "\n") + "\n"
	l := layoutOf(t, text)
	if got := rewriteOf(t, text, l); got != want {
		t.Errorf("Rewrite(%s): %s, not %s", text, got, want)
	}
	if got := impl.Rewrite(l); string(got) != want {
		t.Errorf("Rewrite(%s): %s, not %s", text, got, want)
	}
}

func TestRewriteCases(t *testing.T) {
	// one cell, one row, one column
	rewriteAs(t, "grid 1 1", "grid 1, 1;")
	rewriteAs(t, "grid 1 1; wall 0 0", "grid 1, 1;", "wall 0, 0;")
	rewriteAs(t, "grid 1 1; zone 0 0 cost 9; charger a 0 0", "grid 1, 1;", "zone 0, 0 cost 9;", `charger "a" at 0, 0;`)
	rewriteAs(t, "grid 1 1; lane 0 0 east; bar 0 0 north", "grid 1, 1;")
	rewriteAs(t, "grid 40 1; wall 39 0; zone 38 0 cost 2; station s 10 0", "grid 40, 1;", "zone 38, 0 cost 2;", "wall 39, 0;", `station "s" at 10, 0;`)
	rewriteAs(t, "grid 1 40; wall 0 39; zone 0 38 cost 2; station s 0 10", "grid 1, 40;", "zone 0, 38 cost 2;", "wall 0, 39;", `station "s" at 0, 10;`)
	rewriteAs(t, "grid 3 1; lane 0 0 2 0 east", "grid 3, 1;", "bar 1, 0 west;", "bar 2, 0 west;")
	rewriteAs(t, "grid 1 3; lane 0 0 0 2 north; charger c 0 0", "grid 1, 3;", "bar 0, 0 south;", "bar 0, 1 south;", `charger "c" at 0, 0;`)
	// no target, one, some: they come last, in the order of their names
	rewriteAs(t, "grid 3 2", "grid 3, 2;")
	rewriteAs(t, "grid 40 40; station only 39 39", "grid 40, 40;", `station "only" at 39, 39;`)
	rewriteAs(t, "grid 3 2; station b 0 0; wall 1 0; charger a 2 1; zone 0 0 cost 3", "grid 3, 2;", "zone 0, 0 cost 3;", "wall 1, 0;", `charger "a" at 2, 1;`, `station "b" at 0, 0;`)
	// of one cell first its cost, then its bars in the order of their ways
	rewriteAs(t, "grid 3 3; bar 1 1 west; bar 1 1 south; zone 1 1 cost 5; bar 1 1 east; bar 1 1 north", "grid 3, 3;", "zone 1, 1 cost 5;", "bar 1, 1 north;", "bar 1, 1 east;", "bar 1, 1 south;", "bar 1, 1 west;")
	rewriteAs(t, "grid 3 3; lane 1 1 south; wall 1 0; zone 1 0 cost 5", "grid 3, 3;", "wall 1, 0;", "bar 1, 1 east;", "bar 1, 1 west;")
	// areas are written cell by cell
	rewriteAs(t, "grid 2 2; zone 0 0 1 1 cost 2; wall 0 0 0 1", "grid 2, 2;", "wall 0, 0;", "zone 1, 0 cost 2;", "wall 0, 1;", "zone 1, 1 cost 2;")
	// the document's example
	rewriteAs(t, "grid 4 3; wall 1 0 1 1; lane 0 2 3 2 east; station A1 3 0", "grid 4, 3;", "wall 1, 0;", "wall 1, 1;", "bar 0, 2 north;", "bar 1, 2 west;", "bar 2, 2 north;", "bar 2, 2 west;", "bar 3, 2 north;", "bar 3, 2 west;", `station "A1" at 3, 0;`)
}

// Names are written as QuoteText writes them.
func TestRewriteOfNames(t *testing.T) {
	for name, want := range map[string]string{
		"a":                           `"a"`,
		" ":                           `" "`,
		"\"":                          `"\""`,
		`\`:                           `"\\"`,
		`\"`:                          `"\\\""`,
		`\u{41}`:                      `"\\u{41}"`,
		"\x00":                        `"\u{0}"`,
		"\n":                          `"\u{a}"`,
		"\t\r":                        `"\u{9}\u{d}"`,
		"\x1f \x7f":                   `"\u{1f} \u{7f}"`,
		"\u0080":                      "\"\u0080\"",
		"å":                           `"å"`,
		"€":                           `"€"`,
		"😀":                           `"😀"`,
		"\U0010ffff":                  "\"\U0010ffff\"",
		"// å /* € */ 😀;":             `"// å /* € */ 😀;"`,
		strings.Repeat("n", 60):       `"` + strings.Repeat("n", 60) + `"`,
		strings.Repeat("\x01", 60):    `"` + strings.Repeat(`\u{1}`, 60) + `"`,
		strings.Repeat("\"", 60):      `"` + strings.Repeat(`\"`, 60) + `"`,
		strings.Repeat("å", 30):       `"` + strings.Repeat("å", 30) + `"`,
		strings.Repeat("€", 20):       `"` + strings.Repeat("€", 20) + `"`,
		strings.Repeat("😀", 15):       `"` + strings.Repeat("😀", 15) + `"`,
		strings.Repeat("å€😀", 6)[:54]: `"` + strings.Repeat("å€😀", 6) + `"`,
	} {
		for kind, word := range []string{"station", "charger"} {
			l := openLayout(2, 3)
			l.Targets = []impl.Target{target(name, kind, 3)}
			if got := rewriteOf(t, fmt.Sprintf("%q", name), l); got != "grid 2, 3;\n"+word+" "+want+" at 1, 1;\n" {
				t.Errorf("%q: %s", name, got)
			}
		}
	}
	// many of them at once
	l := openLayout(40, 40)
	for i := range 30 {
		letter := string(rune(1 + 40*i))
		l.Targets = append(l.Targets, target(strings.Repeat(letter, (10+i)/len(letter)), i%2, 50*i+7))
		rewriteOf(t, fmt.Sprint(i+1, " targets"), l)
	}
	if text, _ := writtenOf(l); len(l.Targets) != impl.MaxTargets || string(impl.Rewrite(l)) != text || len(text) == 0 {
		t.Errorf("the most targets have no text, %d bytes", len(text))
	}
}

// Each clause of a valid layout broken once.
func TestRewriteRefuses(t *testing.T) {
	for i, spoil := range []func(l *impl.Layout){
		func(l *impl.Layout) { *l = impl.Layout{} },
		func(l *impl.Layout) { l.W = 0 },
		func(l *impl.Layout) { l.H = 0 },
		func(l *impl.Layout) { l.W, l.H = -4, -3 },
		func(l *impl.Layout) { l.W, l.H = 3, 4 },
		func(l *impl.Layout) { l.W, l.H = 12, 1 },
		func(l *impl.Layout) { *l = openLayout(41, 1) },
		func(l *impl.Layout) { *l = openLayout(1, 41) },
		func(l *impl.Layout) { l.W, l.H = math.MaxInt, math.MaxInt },
		func(l *impl.Layout) { l.W, l.H = math.MinInt, math.MinInt },
		func(l *impl.Layout) { l.Cost = l.Cost[:11] },
		func(l *impl.Layout) { l.Cost = append(l.Cost, 1) },
		func(l *impl.Layout) { l.Exits = l.Exits[:11] },
		func(l *impl.Layout) { l.Exits = append(l.Exits, 0) },
		func(l *impl.Layout) { l.Cost, l.Exits = nil, nil },
		func(l *impl.Layout) { l.Cost[6] = -1 },
		func(l *impl.Layout) { l.Cost[6] = 10 },
		func(l *impl.Layout) { l.Exits[1] = 4 },
		func(l *impl.Layout) { l.Exits[0] |= 1 },
		func(l *impl.Layout) { l.Exits[0] |= 2 },
		func(l *impl.Layout) { l.Exits[3] |= 2 },
		func(l *impl.Layout) { l.Exits[8] |= 4 },
		func(l *impl.Layout) { l.Exits[8] |= 8 },
		func(l *impl.Layout) { l.Exits[6] |= 16 },
		func(l *impl.Layout) { l.Exits[6] = -1 },
		func(l *impl.Layout) { l.Targets = slices.Repeat(l.Targets[:1], 31) },
		func(l *impl.Layout) { *l = targetsOf(strings.Split("ABCDEFGHIJKLMNOPQRSTUVWXYZabcde", "")...) },
		func(l *impl.Layout) { slices.Reverse(l.Targets) },
		func(l *impl.Layout) { l.Targets[1].Name = l.Targets[0].Name },
		func(l *impl.Layout) { l.Targets[0].Name = nil },
		func(l *impl.Layout) { l.Targets[2].Name = bytes.Repeat([]byte("z"), 61) },
		func(l *impl.Layout) { l.Targets[2].Name = []byte("z\xff") },
		func(l *impl.Layout) { l.Targets[2].Name = []byte("z\xc3") },
		func(l *impl.Layout) { l.Targets[0].Kind = -1 },
		func(l *impl.Layout) { l.Targets[0].Kind = 2 },
		func(l *impl.Layout) { l.Targets[0].Cell = -1 },
		func(l *impl.Layout) { l.Targets[0].Cell = 12 },
		func(l *impl.Layout) { l.Targets[0].Cell = 1 },
		func(l *impl.Layout) { l.Targets[0].Cell = l.Targets[1].Cell },
	} {
		l := layoutOf(t, crowded)
		if rewriteOf(t, "the layout as it is", l) == "" {
			t.Fatalf("the layout as it is has no text")
		}
		spoil(&l)
		if wantValidLayout(l) {
			t.Fatalf("change %d leaves it valid", i)
		}
		if got := impl.Rewrite(l); len(got) != 0 {
			t.Errorf("change %d: %q", i, got)
		}
	}
}

func TestRewriteOfMadeLayouts(t *testing.T) {
	texts := 0
	for seed := range int64(1500) {
		l := newSurveyor(310000 + seed).layout(7)
		if rewriteOf(t, fmt.Sprint(l), l) != "" {
			texts++
		}
	}
	for seed := range int64(150) {
		w := newSurveyor(320000 + seed)
		l := w.layout(20)
		if rewriteOf(t, fmt.Sprint("seed ", seed), l) != "" {
			texts++
		}
	}
	if texts < 1000 || texts == 1650 {
		t.Errorf("%d have a text", texts)
	}
}

// lengthened answers a layout of walls and one station whose text has so many bytes: its name takes what is left over.
func lengthened(size int, letter string) impl.Layout {
	l := openLayout(40, 40)
	left := size - len("grid 40, 40;\n") - len("station \"n\" at 39, 39;\n")
	for cell := 0; left > 20; cell++ {
		wallIn(&l, cell)
		left -= len(fmt.Sprintf("wall %d, %d;\n", cell%40, cell/40))
	}
	quoted := len(impl.QuoteText([]byte(letter))) - 2
	l.Targets = []impl.Target{target("n"+strings.Repeat(letter, left/quoted)+strings.Repeat("n", left%quoted), 0, 1599)}
	return l
}

// wallIn makes a cell a wall, and takes the exits that led onto it.
func wallIn(l *impl.Layout, cell int) {
	l.Cost[cell], l.Exits[cell] = 0, 0
	for way := range 4 {
		next := spot{cell % l.W, cell / l.W}.toward(way)
		if next.isWithin(l.W, l.H) {
			l.Exits[next.y*l.W+next.x] &^= 1 << ((way + 2) % 4)
		}
	}
}

func TestRewriteOfGreatestTexts(t *testing.T) {
	for _, letter := range []string{"x", "å", "€", "😀", "\"", "\x01"} {
		for size := 4990; size <= 5010; size++ {
			l := lengthened(size, letter)
			text, nodes := writtenOf(l)
			if len(text) != size || nodes > 4000 || !wantValidLayout(l) {
				t.Fatalf("%d bytes, not %d; %d nodes", len(text), size, nodes)
			}
			got := rewriteOf(t, fmt.Sprint(size, " bytes"), l)
			if (got != "") != (size <= 5000) {
				t.Errorf("%d bytes: a text of %d", size, len(got))
			}
		}
	}
	// only the lines and their LFs count: at exactly MaxSource the text is a source
	l := lengthened(5000, "x")
	got, told := surveyOf(t, string(impl.Rewrite(l)))
	if told != (verdict{}) || !sameLayout(got, l) {
		t.Errorf("%v", told)
	}
}

// Trees of about MaxNodes nodes: their texts are longer than a source by far.
func TestRewriteOfGreatestTrees(t *testing.T) {
	seen := map[int]bool{}
	walled := openLayout(40, 40)
	for cell := range 1340 {
		wallIn(&walled, cell)
		for targets := range 4 {
			l := copyLayout(walled)
			for i := range targets {
				l.Targets = append(l.Targets, target(string(rune('a'+i)), i%2, 1599-i))
			}
			nodes := 1 + 3 + 3*(cell+1) + 4*targets
			if nodes < 3990 || nodes > 4010 {
				continue
			}
			if _, n := writtenOf(l); n != nodes || !wantValidLayout(l) {
				t.Fatalf("%d nodes, not %d", n, nodes)
			}
			seen[nodes] = true
			if got := impl.Rewrite(l); len(got) != 0 {
				t.Errorf("%d nodes: a text of %d bytes", nodes, len(got))
			}
		}
	}
	for nodes := 3990; nodes <= 4010; nodes++ {
		if !seen[nodes] {
			t.Errorf("no tree of %d nodes", nodes)
		}
	}
	// nothing but walls, zones or bars
	walls := openLayout(40, 40)
	clear(walls.Cost)
	clear(walls.Exits)
	zones := openLayout(40, 40)
	for cell := range zones.Cost {
		zones.Cost[cell] = 9
	}
	bars := openLayout(40, 40)
	clear(bars.Exits)
	for i, l := range []impl.Layout{walls, zones, bars, mostTargets()} {
		rewriteOf(t, fmt.Sprint("greatest ", i), l)
	}
	if got := impl.Rewrite(openLayout(40, 40)); string(got) != "grid 40, 40;\n" {
		t.Errorf("%q", got)
	}
}

func TestRewriteOfAllSmallLayouts(t *testing.T) {
	count := 0
	for _, sides := range [][2]int{{1, 1}, {2, 1}, {1, 2}, {3, 1}, {1, 3}} {
		cells := sides[0] * sides[1]
		allLists([]int{0, 1, 7}, cells, func(cost []int) {
			allLists([]int{0, 1, 2, 4, 5, 8, 10}, cells, func(exits []int) {
				l := impl.Layout{W: sides[0], H: sides[1], Cost: cost, Exits: exits}
				if !wantValidLayout(l) {
					return
				}
				count++
				rewriteOf(t, fmt.Sprint(l), l)
				for cell := range cells {
					l.Targets = []impl.Target{target("t", cell%2, cell)}
					rewriteOf(t, fmt.Sprint(l), l)
				}
			})
		})
	}
	if count < 200 {
		t.Errorf("%d layouts", count)
	}
}
