package tests

import (
	"fmt"
	"math/rand"
	"slices"
	"strconv"
	"strings"
	"testing"

	"loop.example/s02126/impl"
)

// declsOf reads declarations as "grid 3 2; zone 0 0 1 1 cost 5; lane 0 0 2 0 east; station a 1 1". It answers the index
// of the one that is marked by a ^, or 0.
func declsOf(t *testing.T, marked string) ([]impl.Decl, int) {
	t.Helper()
	var decls []impl.Decl
	mark := 0
	for i, text := range strings.Split(marked, ";") {
		if strings.TrimSpace(text) == "" {
			continue
		}
		if strings.Contains(text, "^") {
			mark = i
		}
		decls = append(decls, declOf(t, strings.Fields(strings.Replace(text, "^", "", 1))))
	}
	return decls, mark
}

func declOf(t *testing.T, words []string) impl.Decl {
	t.Helper()
	d := impl.Decl{Kind: impl.NodeLet + slices.Index(statWords, words[0])}
	words = words[1:]
	if isTargetDecl(d) {
		d.Name = []byte(words[0])
		words = words[1:]
	}
	var numbers []int
	for i, word := range words {
		if n, err := strconv.Atoi(word); err == nil {
			numbers = append(numbers, n)
		} else if way := slices.Index(wayNames, word); way >= 0 {
			d.Dir = way
		} else if word == "cost" {
			d.Cost, _ = strconv.Atoi(words[i+1])
			break
		} else {
			t.Fatalf("the test has a wrong word: %s", word)
		}
	}
	if len(numbers) != 2 && len(numbers) != 4 {
		t.Fatalf("the test has %d numbers: %v", len(numbers), words)
	}
	last := len(numbers) - 2
	d.X1, d.Y1, d.X2, d.Y2 = numbers[0], numbers[1], numbers[last], numbers[last+1]
	return d
}

func target(name string, kind, cell int) impl.Target {
	return impl.Target{Name: []byte(name), Kind: kind, Cell: cell}
}

func openLayout(w, h int) impl.Layout {
	return wantLayout([]impl.Decl{{Kind: impl.NodeGrid, X1: w, Y1: h, X2: w, Y2: h}})
}

// surveyor makes layouts and declarations; the same ones each time.
type surveyor struct{ r *rand.Rand }

func newSurveyor(seed int64) surveyor { return surveyor{rand.New(rand.NewSource(seed))} }

func (w surveyor) oneOf(n int) bool { return w.r.Intn(n) == 0 }

func (w surveyor) name() []byte {
	all := []string{"a", "b", "B", "ab", "a b", "å", "€", "😀", "\x00", "\n", "\"", "\\", "\x7f", "ÿ", "z", strings.Repeat("n", 60), "n" + strings.Repeat("å", 29)}
	return []byte(pick(w.r, all...))
}

// layout makes a valid one.
func (w surveyor) layout(most int) impl.Layout {
	l := impl.Layout{W: 1 + w.r.Intn(most), H: 1 + w.r.Intn(most)}
	walls := 1 + w.r.Intn(8)
	for range l.W * l.H {
		cost := pick(w.r, 1, 1, 1, 1, 2, 3, 4, 5, 6, 7, 8, 9)
		if w.oneOf(walls) {
			cost = 0
		}
		l.Cost = append(l.Cost, cost)
	}
	for cell, at := range spotsOf(l.W, l.H) {
		var ways []int
		if l.Cost[cell] != 0 {
			ways = leading(l, at)
		}
		exits := 0
		for _, way := range ways {
			if !w.oneOf(4) {
				exits += 1 << way
			}
		}
		l.Exits = append(l.Exits, exits)
	}
	w.placeTargets(&l)
	return l
}

func (w surveyor) placeTargets(l *impl.Layout) {
	var names []string
	for range w.r.Intn(12) {
		names = append(names, string(w.name()))
	}
	slices.Sort(names)
	cells := w.r.Perm(len(l.Cost))
	for i, name := range slices.Compact(names) {
		if i < len(cells) && l.Cost[cells[i]] != 0 {
			l.Targets = append(l.Targets, impl.Target{Name: []byte(name), Kind: w.r.Intn(2), Cell: cells[i]})
		}
	}
}

// decl makes one that fits on a grid, but for a slip now and then.
func (w surveyor) decl(width, height, slip int) impl.Decl {
	d := impl.Decl{Kind: impl.NodeWall + w.r.Intn(8), X1: w.r.Intn(width), Y1: w.r.Intn(height), Node: w.r.Intn(100)}
	d.X2, d.Y2 = d.X1, d.Y1
	has := declHas[d.Kind]
	if strings.Contains(has, "area") && w.oneOf(2) {
		d.X2, d.Y2 = w.r.Intn(width), w.r.Intn(height)
	}
	if strings.Contains(has, "dir") {
		d.Dir = w.r.Intn(4)
	}
	if strings.Contains(has, "cost") {
		d.Cost = 1 + w.r.Intn(9)
	}
	if strings.Contains(has, "name") {
		d.Name = w.name()
	}
	if slip > 0 && w.oneOf(slip) {
		w.slip(&d)
	}
	return d
}

func (w surveyor) slip(d *impl.Decl) {
	n := pick(w.r, -1, 0, 1, 2, 3, 4, 5, 9, 10, 40, 41, -1000000, 1000000, -1000001, 1000001)
	fields := []*int{&d.Kind, &d.X1, &d.Y1, &d.X2, &d.Y2, &d.Dir, &d.Cost}
	*pick(w.r, fields...) = n
	if w.oneOf(3) {
		d.Name = []byte(pick(w.r, "", "a", "\xff", "a\xc3", strings.Repeat("n", 61)))
	}
	if w.oneOf(2) {
		d.X2, d.Y2 = d.X1, d.Y1
	}
}

func (w surveyor) decls(slip int) []impl.Decl {
	width, height := 1+w.r.Intn(5), 1+w.r.Intn(5)
	decls := []impl.Decl{{Kind: impl.NodeGrid, X1: width, Y1: height, X2: width, Y2: height}}
	for range w.r.Intn(15) {
		decls = append(decls, w.decl(width, height, slip))
	}
	return decls
}

func declText(decls []impl.Decl) string {
	if len(decls) > 40 {
		return fmt.Sprintf("%d declarations", len(decls))
	}
	return fmt.Sprintf("%+v", decls)
}
