package tests

import (
	"bytes"
	"fmt"
	"slices"
	"strings"
	"testing"

	"loop.example/s02126/impl"
)

// verdict is what Survey, Compile and Tidy tell of a source.
type verdict struct{ code, line, col int }

// verdictAt tells of a fault at an offset; for CodeOK there is no place.
func verdictAt(src string, code, at int) verdict {
	if code == impl.CodeOK {
		return verdict{}
	}
	line, col := wantPosition([]byte(src), at)
	return verdict{code, line, col}
}

// wantSurvey goes from stage to stage. It takes Parse's answer as it is, and finds anew what comes behind it.
func wantSurvey(src string) (impl.Layout, verdict) {
	tree, places, code, at := impl.Parse([]byte(src))
	if code != impl.CodeOK {
		return impl.Layout{}, verdictAt(src, code, at)
	}
	decls, code, node, _ := wantRun(tree)
	if code != impl.CodeOK {
		return impl.Layout{}, verdictAt(src, code, places[node])
	}
	l, code, i := wantDenote(decls)
	at = 0
	if len(decls) > 0 {
		at = places[decls[i].Node]
	}
	return l, verdictAt(src, code, at)
}

func sourceText(src string) string {
	if len(src) > 300 {
		return fmt.Sprintf("%q and %d bytes more", src[:300], len(src)-300)
	}
	return fmt.Sprintf("%q", src)
}

// surveyOf holds Survey, Compile and Tidy of a source against the document, and answers what Survey is to answer.
func surveyOf(t *testing.T, src string) (impl.Layout, verdict) {
	t.Helper()
	want, told := wantSurvey(src)
	given := append([]byte(src), "behind"...)
	got, code, line, col := impl.Survey(given[:len(src)])
	if (verdict{code, line, col}) != told || !sameLayout(got, want) {
		t.Errorf("Survey(%s): %v, %v, not %v, %v", sourceText(src), got, verdict{code, line, col}, want, told)
	}
	compileIs(t, given[:len(src)], want, told)
	tidyOf(t, given[:len(src)])
	if string(given) != src+"behind" {
		t.Errorf("%s is written into, or what lies behind it", sourceText(src))
	}
	return want, told
}

// compileIs wants Compile to answer the image of a layout's tables, or nothing beside a fault.
func compileIs(t *testing.T, src []byte, l impl.Layout, told verdict) {
	t.Helper()
	image, code, line, col := impl.Compile(src)
	if (verdict{code, line, col}) != told {
		t.Errorf("Compile(%s): %v, not %v", sourceText(string(src)), verdict{code, line, col}, told)
	}
	if told.code != impl.CodeOK {
		if len(image) != 0 {
			t.Errorf("Compile(%s): %s beside %d", sourceText(string(src)), imageText(image), code)
		}
		return
	}
	x, _ := wantTables(l)
	if want := wantImage(x); !bytes.Equal(image, want) || len(want) == 0 {
		t.Errorf("Compile(%s): %s, not %s", sourceText(string(src)), imageText(image), imageText(want))
	}
	decodesTo(t, sourceText(string(src)), image, x)
	built, _ := impl.BuildTables(l)
	if !bytes.Equal(image, impl.EncodeImage(built)) {
		t.Errorf("Compile(%s) is not the image of the tables", sourceText(string(src)))
	}
}

// tidyOf wants Tidy to print the tree of a source whatever it means, and what it answers to mean the same. It answers
// the text.
func tidyOf(t *testing.T, src []byte) []byte {
	t.Helper()
	what := sourceText(string(src))
	tree, _, code, at := impl.Parse(src)
	told := verdictAt(string(src), code, at)
	text, code, line, col := impl.Tidy(src)
	if (verdict{code, line, col}) != told || !bytes.Equal(text, impl.PrintTree(tree)) {
		t.Errorf("Tidy(%s): %s, %v, not %s, %v", what, text, verdict{code, line, col}, impl.PrintTree(tree), told)
	}
	if told.code == impl.CodeOK && len(text) <= 5000 {
		tidyMeans(t, what, src, tree, text)
	}
	return text
}

func tidyMeans(t *testing.T, what string, src []byte, tree []impl.Node, text []byte) {
	t.Helper()
	same, _, code, at := impl.Parse(text)
	if code != impl.CodeOK || at != 0 || !sameTree(same, tree) {
		t.Errorf("Tidy(%s) has another tree: %d at %d", what, code, at)
	}
	again, code, line, col := impl.Tidy(text)
	if !bytes.Equal(again, text) || (verdict{code, line, col}) != (verdict{}) {
		t.Errorf("Tidy of Tidy(%s): %s, not %s", what, again, text)
	}
	l1, c1, _, _ := impl.Survey(src)
	l2, c2, line, col := impl.Survey(text)
	if c1 != c2 || !sameLayout(l1, l2) {
		t.Errorf("Tidy(%s) has another layout: %v, %d, not %v, %d", what, l2, c2, l1, c1)
	}
	if _, told := wantSurvey(string(text)); told != (verdict{c2, line, col}) {
		t.Errorf("Survey of Tidy(%s): %v, not %v", what, verdict{c2, line, col}, told)
	}
	i1, c1, _, _ := impl.Compile(src)
	i2, c2, _, _ := impl.Compile(text)
	if c1 != c2 || !bytes.Equal(i1, i2) {
		t.Errorf("Tidy(%s) has another image: %s, %d, not %s, %d", what, imageText(i2), c2, imageText(i1), c1)
	}
}

// surveyAs wants sources to have a fault with this code at the place that is marked by a ^.
func surveyAs(t *testing.T, code int, marked ...string) {
	t.Helper()
	for _, text := range marked {
		before, behind, ok := strings.Cut(text, "^")
		src := before + behind
		want := verdictAt(src, code, len(before))
		if _, told := surveyOf(t, src); !ok || told != want {
			t.Errorf("%s: the test has it wrong, %v, not %v", sourceText(src), told, want)
		}
	}
}

// surveyFine wants sources to be compiled, and answers their layouts.
func surveyFine(t *testing.T, sources ...string) []impl.Layout {
	t.Helper()
	var all []impl.Layout
	for _, src := range sources {
		l, told := surveyOf(t, src)
		if told != (verdict{}) {
			t.Errorf("%s: the test has it wrong, %v", sourceText(src), told)
		}
		all = append(all, l)
	}
	return all
}

// statementLine writes a declaration of one cell, and answers how many nodes it has in a tree.
func statementLine(d impl.Decl) (string, int) {
	word := statWords[d.Kind-impl.NodeLet]
	cell := fmt.Sprintf("%d, %d", d.X1, d.Y1)
	switch word {
	case "zone":
		return fmt.Sprintf("zone %s cost %d;\n", cell, d.Cost), 4
	case "bar":
		return fmt.Sprintf("bar %s %s;\n", cell, wayNames[d.Dir]), 3
	case "station", "charger":
		return fmt.Sprintf("%s %s at %s;\n", word, impl.QuoteText(d.Name), cell), 4
	}
	return fmt.Sprintf("%s %s;\n", word, cell), 3
}

// writtenOf answers the lines of a layout's declarations and the nodes of their tree, whether a source can hold them or
// not.
func writtenOf(l impl.Layout) (string, int) {
	var text strings.Builder
	nodes := 1
	for _, d := range wantDecls(l) {
		line, n := statementLine(d)
		text.WriteString(line)
		nodes += n
	}
	return text.String(), nodes
}

func wantRewrite(l impl.Layout) string {
	text, nodes := writtenOf(l)
	if nodes > 4000 || len(text) > 5000 {
		return ""
	}
	return text
}

// rewriteOf holds Rewrite of a layout against the document, and answers the text, of which it wants the same layout and
// the same image.
func rewriteOf(t *testing.T, what string, l impl.Layout) string {
	t.Helper()
	before := copyLayout(l)
	text := impl.Rewrite(l)
	if want := wantRewrite(l); string(text) != want {
		t.Errorf("Rewrite(%s): %q, not %q", what, text, want)
	}
	if !sameLayout(l, before) {
		t.Errorf("Rewrite(%s) writes into the layout", what)
	}
	if len(text) == 0 {
		return ""
	}
	got, code, line, col := impl.Survey(text)
	if (verdict{code, line, col}) != (verdict{}) || !sameLayout(got, l) {
		t.Errorf("Survey of Rewrite(%s): %v, %v", what, got, verdict{code, line, col})
	}
	x, _ := impl.BuildTables(l)
	if image, _, _, _ := impl.Compile(text); !bytes.Equal(image, impl.EncodeImage(x)) || len(image) == 0 {
		t.Errorf("Compile of Rewrite(%s): %s", what, imageText(image))
	}
	if again := impl.Rewrite(got); !bytes.Equal(again, text) {
		t.Errorf("Rewrite of the layout of Rewrite(%s): %q, not %q", what, again, text)
	}
	if tidy, _, _, _ := impl.Tidy(text); !bytes.Equal(tidy, text) {
		t.Errorf("Rewrite(%s) is not tidy: %q", what, text)
	}
	return string(text)
}

// walksAreShortest wants each cell's walk to each target by an image to be a way of the layout's graph, and none to be
// shorter; and no way to be there where the image has none. (On great floors it asks this of some cells only.)
func walksAreShortest(t *testing.T, what string, l impl.Layout, image []byte, route func(g impl.Graph, target int) ([]int, []int)) {
	t.Helper()
	x, code := impl.DecodeImage(image)
	if code != impl.CodeOK || len(x.Targets) != len(l.Targets) {
		t.Fatalf("%s: %d, %s", what, code, tablesText(x))
	}
	g, _ := wantBuild(l)
	for i, target := range l.Targets {
		least, _ := route(g, target.Cell)
		for cell := 0; cell < len(l.Cost); cell += 1 + len(l.Cost)/150 {
			walk, code := impl.Walk(x, i, cell)
			length := walkLength(l, walk)
			switch {
			case least[cell] < 0:
				if code != impl.CodeLost {
					t.Errorf("%s: from %d to target %d there is no way, not %v, %d", what, cell, i, walk, code)
				}
			case code != impl.CodeOK || length != least[cell] || walk[0] != cell || walk[len(walk)-1] != target.Cell:
				t.Errorf("%s: from %d to target %d: %v, %d, of length %d, not %d", what, cell, i, walk, code, length, least[cell])
			}
		}
	}
}

// walkLength answers the length of a walk on a floor, or -1 if it leaves a cell by a way that is none of its exits.
func walkLength(l impl.Layout, walk []int) int {
	length := 0
	for i := 1; i < len(walk); i++ {
		from, to := spot{walk[i-1] % l.W, walk[i-1] / l.W}, spot{walk[i] % l.W, walk[i] / l.W}
		way := slices.IndexFunc([]int{0, 1, 2, 3}, func(way int) bool { return from.toward(way) == to })
		if way < 0 || l.Exits[walk[i-1]]/[]int{1, 2, 4, 8}[way]%2 == 0 {
			return -1
		}
		length += l.Cost[walk[i]]
	}
	return length
}
