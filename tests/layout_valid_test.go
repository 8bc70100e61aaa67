package tests

import (
	"fmt"
	"math"
	"slices"
	"strings"
	"testing"

	"loop.example/s02126/impl"
)

func TestConstantsOfLayouts(t *testing.T) {
	got := []int{impl.MaxSide, impl.MaxCost, impl.MaxTargets, impl.KindStation, impl.KindCharger}
	if !slices.Equal(got, []int{40, 9, 30, 0, 1}) {
		t.Errorf("%v", got)
	}
}

// layoutIs wants ValidLayout to answer so, the functions that take a layout to answer nothing for one that is not
// valid, and none of them to write into it.
func layoutIs(t *testing.T, what string, l impl.Layout, want bool) {
	t.Helper()
	if wantValidLayout(l) != want {
		t.Errorf("%s: the test has it wrong: %v", what, l)
	}
	before := copyLayout(l)
	if got := impl.ValidLayout(l); got != want {
		t.Errorf("ValidLayout(%s): %v, not %v", what, got, want)
	}
	if got := impl.LayoutDecls(l); !sameDecls(got, wantDecls(l)) {
		t.Errorf("LayoutDecls(%s): %v, not %v", what, declText(got), declText(wantDecls(l)))
	}
	if got := impl.ShowLayout(l); string(got) != wantShow(l) {
		t.Errorf("ShowLayout(%s): %s, not %s", what, got, wantShow(l))
	}
	buildOf(t, what, l)
	tablesOf(t, what, l)
	rewriteOf(t, what, l)
	if !sameLayout(l, before) {
		t.Errorf("%s is written into", what)
	}
}

func layoutGood(t *testing.T, what string, l impl.Layout) {
	t.Helper()
	layoutIs(t, what, l, true)
}

func layoutBad(t *testing.T, what string, l impl.Layout) {
	t.Helper()
	layoutIs(t, what, l, false)
}

func TestValidLayoutOfSides(t *testing.T) {
	for _, w := range []int{1, 2, 39, 40} {
		for _, h := range []int{1, 2, 39, 40} {
			l := openLayout(w, h)
			layoutGood(t, fmt.Sprint(w, " by ", h), l)
			if w != h {
				l.W, l.H = h, w
				layoutBad(t, fmt.Sprint(w, " by ", h, " turned"), l)
			}
		}
	}
	layoutBad(t, "nothing", impl.Layout{})
	layoutBad(t, "41 by 1", openLayout(41, 1))
	layoutBad(t, "1 by 41", openLayout(1, 41))
	layoutBad(t, "41 by 41", openLayout(41, 41))
	layoutBad(t, "41 by 40", openLayout(41, 40))
	layoutBad(t, "40 by 41", openLayout(40, 41))
	layoutBad(t, "80 by 20", openLayout(80, 20))
	layoutBad(t, "1600 by 1", openLayout(1600, 1))
	great := []int{math.MinInt, math.MinInt + 1, -1 << 33, -1 << 32, -41, -40, -2, -1, 0, 1, 2, 40, 41, 1 << 16, 1 << 31, 1 << 32, 1 << 33, 1 << 62, math.MaxInt}
	for _, cells := range []int{0, 1, 2, 4, 40, 41, 1600} {
		for _, w := range great {
			for _, h := range great {
				l := impl.Layout{W: w, H: h, Cost: slices.Repeat([]int{1}, cells), Exits: make([]int, cells)}
				fits := w >= 1 && w <= 40 && h >= 1 && h <= 40 && w*h == cells
				layoutIs(t, fmt.Sprint(w, " by ", h, " of ", cells), l, fits)
			}
		}
	}
}

func TestValidLayoutOfLengths(t *testing.T) {
	for _, side := range [][]int{{1, 1}, {3, 2}, {40, 40}} {
		l := openLayout(side[0], side[1])
		n := len(l.Cost)
		for _, cost := range []int{0, n - 1, n, n + 1, 2 * n} {
			for _, exits := range []int{0, n - 1, n, n + 1, 2 * n} {
				x := l
				x.Cost = slices.Repeat(l.Cost, 2)[:cost]
				x.Exits = slices.Repeat(l.Exits, 2)[:exits]
				layoutIs(t, fmt.Sprint(n, " cells, ", cost, ", ", exits), x, cost == n && exits == n)
			}
		}
		for _, spoil := range []func(x *impl.Layout){
			func(x *impl.Layout) { x.Cost = nil },
			func(x *impl.Layout) { x.Exits = nil },
			func(x *impl.Layout) { x.Cost, x.Exits = nil, nil },
			func(x *impl.Layout) { x.Cost, x.Exits = []int{}, []int{} },
		} {
			x := l
			spoil(&x)
			layoutBad(t, fmt.Sprint(n, " cells, none of a list"), x)
		}
		l.Targets = []impl.Target{}
		layoutGood(t, "an empty list of targets", l)
	}
}

func TestValidLayoutOfCosts(t *testing.T) {
	for _, cell := range []int{0, 4, 8} {
		for cost, ok := range map[int]bool{math.MinInt: false, -1: false, 0: true, 1: true, 2: true, 8: true, 9: true, 10: false, 256: false, 257: false, 1 << 32: false, 1<<32 + 1: false, math.MaxInt: false} {
			l := openLayout(3, 3)
			l.Exits = make([]int, 9)
			l.Cost[cell] = cost
			layoutIs(t, fmt.Sprint("cost ", cost, " at ", cell), l, ok)
		}
	}
}

// All exits of all cells, in grids of which some cells are walls.
func TestValidLayoutOfExits(t *testing.T) {
	odd := []int{math.MinInt, math.MinInt + 15, -16, -15, -8, -4, -2, -1, 1 << 31, 1 << 32, 1<<32 + 1, math.MaxInt}
	for exits := range 34 {
		odd = append(odd, exits)
	}
	for _, walls := range [][]int{nil, {0}, {1}, {3}, {4}, {5}, {7}, {8}, {1, 3, 5, 7}, {0, 1, 2, 3, 4, 5, 6, 7, 8}} {
		for cell, at := range spotsOf(3, 3) {
			for _, exits := range odd {
				l := openLayout(3, 3)
				l.Exits = make([]int, 9)
				for _, wall := range walls {
					l.Cost[wall] = 0
				}
				l.Exits[cell] = exits
				want := exits == 0 || l.Cost[cell] > 0 && slices.Contains(sumsOf(leading(l, at)), exits)
				layoutIs(t, fmt.Sprint("exits ", exits, " of ", cell, " with walls ", walls), l, want)
			}
		}
	}
}

func TestValidLayoutOfExitsCases(t *testing.T) {
	cases := []struct {
		what  string
		cost  []int
		exits []int
		want  bool
	}{
		{"all exits", []int{1, 1, 1, 1, 1, 1}, []int{6, 14, 12, 3, 11, 9}, true},
		{"no exits", []int{1, 1, 1, 1, 1, 1}, []int{0, 0, 0, 0, 0, 0}, true},
		{"one way only", []int{1, 1, 1, 1, 1, 1}, []int{2, 2, 4, 1, 8, 8}, true},
		{"out to the north", []int{1, 1, 1, 1, 1, 1}, []int{0, 1, 0, 0, 0, 0}, false},
		{"out to the east", []int{1, 1, 1, 1, 1, 1}, []int{0, 0, 2, 0, 0, 0}, false},
		{"out to the south", []int{1, 1, 1, 1, 1, 1}, []int{0, 0, 0, 0, 4, 0}, false},
		{"out to the west", []int{1, 1, 1, 1, 1, 1}, []int{0, 0, 0, 8, 0, 0}, false},
		{"beside a wall", []int{1, 0, 1, 1, 1, 1}, []int{4, 0, 4, 3, 10, 9}, true},
		{"onto a wall to the east", []int{1, 0, 1, 1, 1, 1}, []int{2, 0, 0, 0, 0, 0}, false},
		{"onto a wall to the west", []int{1, 0, 1, 1, 1, 1}, []int{0, 0, 8, 0, 0, 0}, false},
		{"onto a wall to the north", []int{1, 0, 1, 1, 1, 1}, []int{0, 0, 0, 0, 1, 0}, false},
		{"onto a wall to the south", []int{1, 1, 1, 1, 0, 1}, []int{0, 4, 0, 0, 0, 0}, false},
		{"from a wall", []int{1, 0, 1, 1, 1, 1}, []int{0, 4, 0, 0, 0, 0}, false},
		{"from wall to wall", []int{1, 0, 1, 1, 0, 1}, []int{0, 4, 0, 0, 0, 0}, false},
		{"only walls", []int{0, 0, 0, 0, 0, 0}, []int{0, 0, 0, 0, 0, 0}, true},
		{"the fifth bit", []int{1, 1, 1, 1, 1, 1}, []int{0, 0, 0, 0, 16, 0}, false},
		{"the fifth bit of a wall", []int{1, 1, 1, 1, 0, 1}, []int{0, 0, 0, 0, 16, 0}, false},
		{"less than none", []int{1, 1, 1, 1, 1, 1}, []int{0, 0, 0, 0, -5, 0}, false},
	}
	for _, c := range cases {
		layoutIs(t, c.what, impl.Layout{W: 3, H: 2, Cost: c.cost, Exits: c.exits}, c.want)
	}
}

// All layouts of two cells, and all of four in which cells are walls or not.
func TestValidLayoutOfAllSmallGrids(t *testing.T) {
	compare := func(l impl.Layout) {
		if impl.ValidLayout(l) != wantValidLayout(l) {
			t.Fatalf("ValidLayout(%v): %v", l, impl.ValidLayout(l))
		}
	}
	for n := range 7 * 7 * 19 * 19 {
		cost := []int{n%7*2 - 2, n/7%7*2 - 2}
		exits := []int{n/49%19 - 1, n/49/19 - 1}
		compare(impl.Layout{W: 2, H: 1, Cost: cost, Exits: exits})
		compare(impl.Layout{W: 1, H: 2, Cost: cost, Exits: exits})
	}
	for n := range 1 << 20 {
		cost := []int{n & 1, n >> 1 & 1, n >> 2 & 1, n >> 3 & 1}
		exits := []int{n >> 4 & 15, n >> 8 & 15, n >> 12 & 15, n >> 16 & 15}
		compare(impl.Layout{W: 2, H: 2, Cost: cost, Exits: exits})
	}
}

func targetsOf(names ...string) impl.Layout {
	l := openLayout(40, 2)
	for i, name := range names {
		l.Targets = append(l.Targets, impl.Target{Name: []byte(name), Kind: i % 2, Cell: i})
	}
	return l
}

func TestValidLayoutOfNames(t *testing.T) {
	good := map[string][]string{
		"none":                   {},
		"one":                    {"a"},
		"by bytes":               {"A", "B", "a", "b"},
		"a beginning":            {"a", "aa", "aaa", "ab"},
		"characters":             {"\x00", "\n", " ", "z", "\x7f", "\u0080", "å", "€", "\uffff", "😀", "\U0010ffff"},
		"sixty bytes":            {strings.Repeat("n", 60)},
		"sixty bytes of thirty":  {strings.Repeat("å", 30)},
		"at their last byte":     {strings.Repeat("n", 59), strings.Repeat("n", 59) + "m", strings.Repeat("n", 60)},
		"digits as letters":      {"10", "2"},
		"beyond letters by byte": {"Z", "a"},
	}
	bad := map[string][]string{
		"out of order":               {"b", "a"},
		"out of order, last":         {"a", "b", "d", "c"},
		"out of order, first":        {"b", "a", "c", "d"},
		"a beginning behind":         {"aa", "a"},
		"small letters first":        {"a", "B"},
		"twice the same":             {"a", "a"},
		"twice the same, last":       {"a", "b", "b"},
		"twice the same of sixty":    {strings.Repeat("n", 60), strings.Repeat("n", 60)},
		"empty":                      {""},
		"empty first":                {"", "a"},
		"two empty":                  {"", ""},
		"sixty-one bytes":            {strings.Repeat("n", 61)},
		"sixty-one bytes, last":      {"a", strings.Repeat("n", 61)},
		"sixty-two of 31 characters": {strings.Repeat("å", 31)},
		"not well-formed":            {"\xff"},
		"cut off":                    {"a\xc3"},
		"cut off, first":             {"a\xc3", "b"},
		"a surrogate":                {"\xed\xa0\x80"},
		"too long a form":            {"\xc0\x80"},
	}
	for what, names := range good {
		layoutGood(t, what, targetsOf(names...))
	}
	for what, names := range bad {
		layoutBad(t, what, targetsOf(names...))
	}
	l := targetsOf("a", "b")
	l.Targets[0].Name = nil
	layoutBad(t, "a nil name", l)
}

func TestValidLayoutOfManyTargets(t *testing.T) {
	for n, want := range map[int]bool{0: true, 1: true, 29: true, 30: true, 31: false, 32: false, 80: false} {
		var names []string
		for i := range n {
			names = append(names, string(rune(' '+i)))
		}
		layoutIs(t, fmt.Sprint(n, " targets"), targetsOf(names...), want)
	}
	l := targetsOf(strings.Split("abcdefghijklmnopqrstuvwxyz{|}~", "")...)
	for i := range 29 {
		x := copyLayout(l)
		x.Targets[i], x.Targets[i+1] = x.Targets[i+1], x.Targets[i]
		layoutBad(t, fmt.Sprint("the targets ", i, " and the next, turned"), x)
	}
}

func TestValidLayoutOfKindsAndCells(t *testing.T) {
	for i := range 3 {
		for kind, ok := range map[int]bool{math.MinInt: false, -1: false, 0: true, 1: true, 2: false, 14: false, 15: false, 256: false, 1 << 32: false, math.MaxInt: false} {
			l := targetsOf("a", "b", "c")
			l.Targets[i].Kind = kind
			layoutIs(t, fmt.Sprint("kind ", kind), l, ok)
		}
		for cell, ok := range map[int]bool{math.MinInt: false, -1: false, 39: true, 40: true, 79: true, 80: false, 81: false, 1 << 32: false, math.MaxInt: false} {
			l := targetsOf("a", "b", "c")
			l.Targets[i].Cell = cell
			layoutIs(t, fmt.Sprint("cell ", cell), l, ok)
		}
		for j := range 3 {
			l := targetsOf("a", "b", "c")
			l.Targets[i].Cell = l.Targets[j].Cell
			layoutIs(t, fmt.Sprint("the cell of ", j, " for ", i), l, i == j)
			l.Targets[0].Kind, l.Targets[1].Kind, l.Targets[2].Kind = 1, 1, 0
			layoutIs(t, fmt.Sprint("the cell of ", j, " for ", i, " of other kinds"), l, i == j)
		}
		l := targetsOf("a", "b", "c")
		l.Exits = make([]int, 80)
		l.Cost[i] = 0
		layoutBad(t, fmt.Sprint("a wall under target ", i), l)
		l.Cost[i] = 9
		layoutGood(t, fmt.Sprint("the greatest cost under target ", i), l)
		l.Cost[3], l.Targets[i].Cell = 0, 3
		layoutBad(t, fmt.Sprint("target ", i, " on a wall"), l)
	}
	l := openLayout(1, 1)
	l.Targets = []impl.Target{{Name: []byte("a")}}
	layoutGood(t, "a target on the only cell", l)
	l.Cost[0] = 0
	layoutBad(t, "a target on the only wall", l)
	l.Targets[0].Cell = 1
	layoutBad(t, "a target beyond the only wall", l)
}

// Layouts that are valid, and what becomes of them when one field is changed.
func TestValidLayoutOfChangedLayouts(t *testing.T) {
	refused := 0
	for seed := range int64(3000) {
		w := newSurveyor(seed)
		l := w.layout(6)
		layoutGood(t, fmt.Sprint(l), l)
		for range 5 {
			x := copyLayout(l)
			w.spoil(&x)
			if !wantValidLayout(x) {
				refused++
			}
			layoutIs(t, fmt.Sprint(x), x, wantValidLayout(x))
		}
		if t.Failed() {
			return
		}
	}
	if refused < 5000 || refused > 14000 {
		t.Errorf("%d changed layouts are not valid: too few of one sort", refused)
	}
}

func (w surveyor) spoil(l *impl.Layout) {
	cell := w.r.Intn(len(l.Cost))
	n := pick(w.r, -1, 0, 1, 2, 3, 4, 5, 6, 7, 8, 9, 10, 16, 40, 41)
	choice := w.r.Intn(9)
	if choice >= 5 && len(l.Targets) == 0 {
		choice -= 5
	}
	if choice < 5 {
		switch choice {
		case 0:
			l.W = n
		case 1:
			l.H = n
		case 2:
			l.Cost[cell] = n
		case 3:
			l.Exits[cell] = n
		case 4:
			l.Exits = l.Exits[1:]
		}
		return
	}
	i, j := w.r.Intn(len(l.Targets)), w.r.Intn(len(l.Targets))
	switch choice {
	case 5:
		l.Targets[i].Kind = n
	case 6:
		l.Targets[i].Cell = n
	case 7:
		l.Targets[i].Name = w.name()
	case 8:
		l.Targets[i], l.Targets[j] = l.Targets[j], l.Targets[i]
	}
}
