package tests

import (
	"bytes"
	"cmp"
	"slices"
	"strings"
	"testing"
	"unsafe"

	"loop.example/s02126/impl"
)

func sameNode(a, b impl.Node) bool {
	return a.Kind == b.Kind && a.N == b.N && a.Count == b.Count && bytes.Equal(a.Text, b.Text) &&
		slices.EqualFunc(a.Names, b.Names, bytes.Equal) && slices.Equal(a.Types, b.Types)
}

func sameTree(a, b []impl.Node) bool {
	return slices.EqualFunc(a, b, sameNode)
}

// parseAs wants a source to mean a tree, with these places for its nodes.
func parseAs(t *testing.T, src string, want sprout, places ...int) {
	t.Helper()
	tree, got, code, at := impl.Parse([]byte(src))
	if code != impl.CodeOK || at != 0 {
		t.Errorf("Parse(%q): %d at %d", src, code, at)
		return
	}
	if !sameTree(tree, want.flat()) {
		t.Errorf("Parse(%q): %v, not %v", src, tree, want.flat())
	}
	if !slices.Equal(got, places) {
		t.Errorf("Parse(%q): places %v, not %v", src, got, places)
	}
	if !impl.ValidTree(tree) || !wantValid(tree) {
		t.Errorf("Parse(%q): the tree is not valid", src)
	}
}

func parseFault(t *testing.T, src string, code, at int) {
	t.Helper()
	tree, places, c, a := impl.Parse([]byte(src))
	if c != code || a != at || len(tree) != 0 || len(places) != 0 {
		t.Errorf("Parse(%.60q): %d at %d with %d nodes and %d places, not %d at %d", src, c, a, len(tree), len(places), code, at)
	}
}

func parseFits(t *testing.T, src string) {
	t.Helper()
	tree, places, code, at := impl.Parse([]byte(src))
	if code != impl.CodeOK || at != 0 || len(places) != len(tree) || !impl.ValidTree(tree) {
		t.Errorf("Parse(%.60q): %d at %d with %d nodes and %d places", src, code, at, len(tree), len(places))
	}
}

var (
	a = variable("a")
	b = variable("b")
	c = variable("c")
)

func TestParseStatements(t *testing.T) {
	parseAs(t, "", program(), 0)
	parseAs(t, " // nothing\n", program(), 0)
	parseAs(t, "let x = 1;", program(let("x", number(1))), 0, 0, 8)
	parseAs(t, "  let x = 1;", program(let("x", number(1))), 0, 2, 10)
	parseAs(t, "call f();", program(named(impl.NodeCall, "f")), 0, 0)
	parseAs(t, "call f(a);", program(named(impl.NodeCall, "f", a)), 0, 0, 7)
	parseAs(t, "call f(a, b, c);", program(named(impl.NodeCall, "f", a, b, c)), 0, 0, 7, 10, 13)
	parseAs(t, "for i = a to b { }", program(named(impl.NodeFor, "i", a, b, block())), 0, 0, 8, 13, 15)
	parseAs(t, "grid a, b;", program(kind(impl.NodeGrid, a, b)), 0, 0, 5, 8)
	parseAs(t, "wall a, b;", program(kind(impl.NodeWall, a, b)), 0, 0, 5, 8)
	parseAs(t, "open a, b;", program(kind(impl.NodeOpen, a, b)), 0, 0, 5, 8)
	parseAs(t, "wall a, b to c, 1;", program(kind(impl.NodeWall, a, b, c, number(1))), 0, 0, 5, 8, 13, 16)
	parseAs(t, "open a, b to c, 1;", program(kind(impl.NodeOpen, a, b, c, number(1))), 0, 0, 5, 8, 13, 16)
	for way, word := range []string{"north", "east", "south", "west"} {
		parseAs(t, "lane a, b "+word+";", program(pointed(impl.NodeLane, way, a, b)), 0, 0, 5, 8)
		parseAs(t, "lane a, b to c, a "+word+";", program(pointed(impl.NodeLane, way, a, b, c, a)), 0, 0, 5, 8, 13, 16)
		parseAs(t, "gate a, b "+word+";", program(pointed(impl.NodeGate, way, a, b)), 0, 0, 5, 8)
		parseAs(t, "bar a, b "+word+";", program(pointed(impl.NodeBar, way, a, b)), 0, 0, 4, 7)
	}
	parseAs(t, "zone a, b cost c;", program(kind(impl.NodeZone, a, b, c)), 0, 0, 5, 8, 15)
	parseAs(t, "zone a, b to c, a cost b;", program(kind(impl.NodeZone, a, b, c, a, b)), 0, 0, 5, 8, 13, 16, 23)
	parseAs(t, "station a at b, c;", program(kind(impl.NodeStation, a, b, c)), 0, 0, 8, 13, 16)
	parseAs(t, "charger a at b, c;", program(kind(impl.NodeCharger, a, b, c)), 0, 0, 8, 13, 16)
	parseAs(t, "grid a, b;grid b, a;", program(kind(impl.NodeGrid, a, b), kind(impl.NodeGrid, b, a)), 0, 0, 5, 8, 10, 15, 18)
	parseAs(t, "grid a, b; macro m() {} grid b, a;", program(kind(impl.NodeGrid, a, b), macro("m", nil, nil, block()), kind(impl.NodeGrid, b, a)), 0, 0, 5, 8, 11, 21, 24, 29, 32)
}

func TestParseMacros(t *testing.T) {
	parseAs(t, "macro m() { }", program(macro("m", nil, nil, block())), 0, 0, 10)
	parseAs(t, "macro m(int a) { }", program(macro("m", []string{"a"}, []int{impl.TypeInt}, block())), 0, 0, 15)
	parseAs(t, "macro m(text a) { }", program(macro("m", []string{"a"}, []int{impl.TypeText}, block())), 0, 0, 16)
	parseAs(t, "macro m(text a, int a) { let a = b; }", program(macro("m", []string{"a", "a"}, []int{1, 0}, block(let("a", b)))), 0, 0, 23, 25, 33)
	var params, types, args = []string{}, []int{}, []sprout{}
	src, calls := "macro m(", "call m("
	for i := range impl.MaxArgs {
		word := []string{"int", "text"}[i%2]
		src += strings.Repeat(",", min(i, 1)) + word + " p" + string(rune('0'+i))
		calls += strings.Repeat(",", min(i, 1)) + string(rune('0'+i))
		params = append(params, "p"+string(rune('0'+i)))
		types = append(types, i%2)
		args = append(args, number(i))
	}
	parseAs(t, src+"){}", program(macro("m", params, types, block())), 0, 0, len(src)+1)
	parseAs(t, calls+");", program(named(impl.NodeCall, "m", args...)), 0, 0, 7, 9, 11, 13, 15, 17, 19, 21, 23, 25)
	parseFault(t, src+",int q){}", impl.CodeSize, 0)
	parseFault(t, calls+",1);", impl.CodeSize, 0)
	parseFault(t, src+",int q){} x", impl.CodeParse, len(src)+10)
	parseFault(t, calls+",1) x", impl.CodeParse, len(calls)+4)
	parseFault(t, calls+strings.Repeat(",1", 500)+");", impl.CodeSize, 0)
}

func TestParseBlocks(t *testing.T) {
	empty := block()
	parseAs(t, "if a { }", program(kind(impl.NodeIf, a, empty)), 0, 0, 3, 5)
	parseAs(t, "if a { } else { }", program(kind(impl.NodeIf, a, empty, empty)), 0, 0, 3, 5, 14)
	parseAs(t, "if a { } else if b { }", program(kind(impl.NodeIf, a, empty, kind(impl.NodeIf, b, empty))), 0, 0, 3, 5, 14, 17, 19)
	parseAs(t, "if a { } else if b { } else { }", program(kind(impl.NodeIf, a, empty, kind(impl.NodeIf, b, empty, empty))), 0, 0, 3, 5, 14, 17, 19, 28)
	parseAs(t, "if a { } else if b { } else if c { } else { }",
		program(kind(impl.NodeIf, a, empty, kind(impl.NodeIf, b, empty, kind(impl.NodeIf, c, empty, empty)))),
		0, 0, 3, 5, 14, 17, 19, 28, 31, 33, 42)
	parseAs(t, "if a { } else { if b { } }", program(kind(impl.NodeIf, a, empty, block(kind(impl.NodeIf, b, empty)))), 0, 0, 3, 5, 14, 16, 19, 21)
	parseAs(t, "if a { if b { } } else { }", program(kind(impl.NodeIf, a, block(kind(impl.NodeIf, b, empty)), empty)), 0, 0, 3, 5, 7, 10, 12, 23)
	parseAs(t, "if a { if b { } else { } }", program(kind(impl.NodeIf, a, block(kind(impl.NodeIf, b, empty, empty)))), 0, 0, 3, 5, 7, 10, 12, 21)
	parseAs(t, "if a { } if b { } else { }", program(kind(impl.NodeIf, a, empty), kind(impl.NodeIf, b, empty, empty)), 0, 0, 3, 5, 9, 12, 14, 23)
	parseAs(t, "for i = 1 to 2 { for j = 3 to 4 { } grid a, b; }",
		program(named(impl.NodeFor, "i", number(1), number(2), block(named(impl.NodeFor, "j", number(3), number(4), empty), kind(impl.NodeGrid, a, b)))),
		0, 0, 8, 13, 15, 17, 25, 30, 32, 36, 41, 44)
}

func TestParseLeaves(t *testing.T) {
	for src, want := range map[string]sprout{
		"0": number(0), "99999": number(99999), "007": number(7), "00099999": number(99999), strings.Repeat("0", 4000) + "12": number(12),
		"true": pointed(impl.NodeBool, 1), "false": pointed(impl.NodeBool, 0),
		"x": variable("x"), "_": variable("_"), "True": variable("True"), "lets": variable("lets"),
		`""`: quoted(""), `"a"`: quoted("a"), `"let"`: quoted("let"), `"\u{41}\"\\\u{a}"`: quoted("A\"\\\n"), `"å//"`: quoted("å//"),
		"(1)": number(1), "((x))": variable("x"), "((((true))))": pointed(impl.NodeBool, 1),
	} {
		tree, places, code, at := impl.Parse([]byte("let y = " + src + ";"))
		inner := 8 + strings.LastIndexByte(src, '(') + 1
		if code != impl.CodeOK || at != 0 || !sameTree(tree, program(let("y", want)).flat()) || !slices.Equal(places, []int{0, 0, inner}) {
			t.Errorf("%.40q: %v, %v, %d at %d", src, tree, places, code, at)
		}
	}
}

// exprIs wants "let x = " with an expression behind it to mean a tree.
func exprIs(t *testing.T, src string, want sprout) {
	t.Helper()
	tree, places, code, at := impl.Parse([]byte("let x = " + src + ";"))
	if code != impl.CodeOK || at != 0 || !sameTree(tree, program(let("x", want)).flat()) || len(places) != len(tree) {
		t.Errorf("%q: %v, %d at %d, not %v", src, tree, code, at, want.flat())
	}
}

func TestParseOperators(t *testing.T) {
	if len(operatorSigns) != 14 || impl.OpMod != 13 || impl.OpCat != 8 {
		t.Fatalf("%d operators", len(operatorSigns))
	}
	for op, sign := range operatorSigns {
		parseAs(t, "let x=a"+sign+"b;", program(let("x", bin(op, a, b))), 0, 0, 7, 6, 7+len(sign))
		exprIs(t, "("+"a "+sign+" b)", bin(op, a, b))
		exprIs(t, "-a"+sign+"!b", bin(op, neg(a), not(b)))
		exprIs(t, "!a"+sign+"-b", bin(op, not(a), neg(b)))
		exprIs(t, "-(a"+sign+"b)", neg(bin(op, a, b)))
		exprIs(t, "!(a"+sign+"b)", not(bin(op, a, b)))
		exprIs(t, "--!-a"+sign+"-!!b", bin(op, neg(neg(not(neg(a)))), neg(not(not(b)))))
		for op2, sign2 := range operatorSigns {
			want := bin(op, a, bin(op2, b, c))
			if lineOf(op2) <= lineOf(op) {
				want = bin(op2, bin(op, a, b), c)
			}
			exprIs(t, "a "+sign+" b "+sign2+" c", want)
			exprIs(t, "(a "+sign+" b) "+sign2+" c", bin(op2, bin(op, a, b), c))
			exprIs(t, "a "+sign+" (b "+sign2+" c)", bin(op, a, bin(op2, b, c)))
			exprIs(t, "-(a "+sign+" b) "+sign2+" c", bin(op2, neg(bin(op, a, b)), c))
			exprIs(t, "a "+sign+" !(b "+sign2+" c)", bin(op, a, not(bin(op2, b, c))))
		}
	}
	parseAs(t, "let x = a + b * c - -1;", program(let("x", bin(impl.OpSub, bin(impl.OpAdd, a, bin(impl.OpMul, b, c)), neg(number(1))))),
		0, 0, 18, 10, 8, 14, 12, 16, 20, 21)
	parseAs(t, "let x = ((a) - (b - c));", program(let("x", bin(impl.OpSub, a, bin(impl.OpSub, b, c)))), 0, 0, 13, 10, 18, 16, 20)
	parseAs(t, "let x = !(a && -b);", program(let("x", not(bin(impl.OpAnd, a, neg(b))))), 0, 0, 8, 12, 10, 15, 16)
}

// Three operators in a row: by the line of the middle one they can meet in five ways.
func TestParseThreeOperators(t *testing.T) {
	d := variable("d")
	for i, x := range operatorSigns {
		for j, y := range operatorSigns {
			for k, z := range operatorSigns {
				exprIs(t, "a"+x+"b"+y+"c"+z+"d", climb([]sprout{a, b, c, d}, []int{i, j, k}))
			}
		}
	}
}

// climb parts a row at its last operator of the loosest line.
func climb(operands []sprout, ops []int) sprout {
	if len(ops) == 0 {
		return operands[0]
	}
	at := 0
	for i, op := range ops {
		if lineOf(op) <= lineOf(ops[at]) {
			at = i
		}
	}
	return bin(ops[at], climb(operands[:at+1], ops[:at]), climb(operands[at+1:], ops[at+1:]))
}

func TestParseSourcesOfAllTrees(t *testing.T) {
	made := 0
	for seed := range int64(1500) {
		sow := newSower(seed)
		p := sow.program(6)
		w := &scribe{r: sow.r}
		w.program(p)
		if len(w.src) > 5000 || p.deep() > 60 {
			continue
		}
		made++
		tree, places, code, at := impl.Parse(w.src)
		if code != impl.CodeOK || at != 0 || !sameTree(tree, p.flat()) || !slices.Equal(places, w.places) {
			t.Fatalf("%q: %d at %d\n%v\n%v\n%v\n%v", w.src, code, at, tree, p.flat(), places, w.places)
		}
		if !impl.ValidTree(tree) {
			t.Fatalf("%q: not valid", w.src)
		}
	}
	if made < 1000 {
		t.Errorf("only %d trees", made)
	}
}

// tokenClass is what the grammar calls a token.
func tokenClass(token string) string {
	kind, _ := wantToken(token)
	switch kind {
	case impl.TokName:
		return "NAME"
	case impl.TokInt:
		return "INT"
	case impl.TokText:
		return "TEXT"
	}
	return token
}

func allTokens() []string {
	return append(strings.Fields(words+" "+signs), "x", "7", `"s"`)
}

// TestParseFirstFault goes through rows of tokens that can go on, and puts each token there is behind them.
func TestParseFirstFault(t *testing.T) {
	tokens := allTokens()
	// Of tokens that the grammar takes alike only some are gone on with.
	onward := map[string]bool{}
	for _, s := range strings.Fields(`macro int let call for to if else grid wall lane gate zone cost station at north ( ) { } , ; = && - ! x 7`) {
		onward[s] = true
	}
	rows := 0
	var visit func(c chart, src string, left int)
	visit = func(c chart, src string, left int) {
		next := c.next()
		for _, token := range tokens {
			rows++
			grown := src + token
			if !next[tokenClass(token)] {
				parseFault(t, grown, impl.CodeParse, len(src))
				if left > 0 {
					parseFault(t, grown+" ; ) let }", impl.CodeParse, len(src))
				}
				continue
			}
			d := c.read(tokenClass(token))
			if d.complete() {
				parseFits(t, grown)
			} else {
				parseFault(t, grown, impl.CodeParse, len(grown))
				parseFault(t, grown+" // }\n", impl.CodeParse, len(grown)+len(" // }\n"))
			}
			if left > 1 && onward[token] {
				visit(d, grown+" ", left-1)
			}
		}
	}
	visit(newChart(), "", 6)
	if rows < 100000 || t.Failed() {
		t.Errorf("%d rows", rows)
	}
}

// Longer sources: each is cut behind each of its tokens, and has each token changed for others.
func TestParseFaultsWithinPrograms(t *testing.T) {
	tokens := allTokens()
	tried := 0
	for seed := range int64(60) {
		sow := newSower(1000 + seed)
		p := sow.program(5)
		w := &scribe{r: sow.r}
		w.program(p)
		if len(w.src) > 1200 {
			continue
		}
		toks, _, _ := wantLex(string(w.src))
		chart := newChart()
		for i, tok := range toks {
			next := chart.next()
			for range 6 {
				token := tokens[sow.r.Intn(len(tokens))]
				src := string(w.src[:tok.At]) + " " + token + " " + string(w.src[tok.At+tok.Len:])
				if !next[tokenClass(token)] {
					tried++
					parseFault(t, src, impl.CodeParse, tok.At+1)
				}
			}
			cut := tok.At
			if i > 0 && chart.complete() {
				parseFits(t, string(w.src[:cut]))
			} else if i > 0 {
				parseFault(t, string(w.src[:cut]), impl.CodeParse, cut)
			}
			chart = chart.read(tokenClass(string(w.src[tok.At : tok.At+tok.Len])))
		}
		if !chart.complete() {
			t.Fatalf("%q is no program", w.src)
		}
	}
	if tried < 10000 {
		t.Errorf("%d tried", tried)
	}
}

func TestParseOfLexFaults(t *testing.T) {
	for _, src := range []string{"@", "grid 1, 1; @", "grid grid @", "} @", "x 1a", "let x = \"a", "/* grid", "grid 1, 100000;", "grid grid \xff", "@ \xff", "let " + strings.Repeat("a", 31) + " = @", strings.Repeat("x ", 2501), strings.Repeat(" ", 5001), "grid \"\\u{d800}\""} {
		_, code, at := wantLex(src)
		if code == impl.CodeOK {
			t.Fatalf("%q has no fault", src)
		}
		parseFault(t, src, code, at)
	}
	parseFits(t, strings.Repeat(" ", 4990)+"grid 1,1; ")
	parseFault(t, strings.Repeat(" ", 4991)+"grid 1,1; ", impl.CodeSize, 5000)
	parseFault(t, strings.Repeat(" ", 4996)+"grid", impl.CodeParse, 5000)
}

func TestParseNamesAndTextsOfGreatestSize(t *testing.T) {
	for _, form := range []string{"let @ = 1;", "let x = @;", "call @();", "call f(@);", "for @ = 1 to 2 { }", "macro @() { }", "macro f(int @) { }", "macro f(int x, text @) { }", "if 1 { let @ = 2; }", "grid 1, -@;"} {
		for _, c := range []string{"a", "_", "Z9"} {
			name := strings.Repeat(c, 30)[:30]
			parseFits(t, strings.ReplaceAll(form, "@", name))
			parseFault(t, strings.ReplaceAll(form, "@", name+"a"), impl.CodeSize, 0)
			src := strings.ReplaceAll(form, "@", name+"a") + " x"
			parseFault(t, src, impl.CodeParse, len(src)-1)
		}
		parseFault(t, strings.ReplaceAll(form, "@", strings.Repeat("x", 900)), impl.CodeSize, 0)
	}
	for _, form := range []string{"let x = @;", "call f(@);", "station @ at 1, 2;", "if @ & @ { }"} {
		for _, text := range []string{strings.Repeat("a", 60), strings.Repeat("å", 30), strings.Repeat("😀", 15), strings.Repeat(`\u{41}`, 60), strings.Repeat(`\\`, 60), strings.Repeat(`\u{1F600}`, 15)} {
			parseFits(t, strings.ReplaceAll(form, "@", `"`+text+`"`))
			parseFault(t, strings.ReplaceAll(form, "@", `"`+text+`b"`), impl.CodeSize, 0)
			parseFault(t, strings.ReplaceAll(form, "@", `"`+text+`\u{0}"`), impl.CodeSize, 0)
			src := strings.ReplaceAll(form, "@", `"`+text+`b"`) + " )"
			parseFault(t, src, impl.CodeParse, len(src)-1)
		}
	}
}

// manyNodes is a source of n nodes, for n from 3500 on, none of them deep.
func manyNodes(n int) string {
	sum := "1" + strings.Repeat("+1", 50)
	all := strings.Repeat("call f("+strings.Repeat(sum+",", 9)+sum+");", 3)
	left := n - 1 - 3*(1+10*101) - 1
	all += "call f(" + sum
	for left -= 101; left >= 103; left -= 101 {
		all += "," + sum
	}
	minus := 0
	if left%2 == 0 {
		minus, left = 1, left-1
	}
	return all + "," + strings.Repeat("-", minus) + "1" + strings.Repeat("+1", left/2) + ");"
}

func TestParseOfGreatestTrees(t *testing.T) {
	for n := 3900; n <= 4000; n++ {
		tree, _, _, _ := impl.Parse([]byte(manyNodes(n)))
		if len(tree) != n {
			t.Fatalf("%d nodes, not %d", len(tree), n)
		}
		parseFits(t, manyNodes(n))
	}
	for n := 4001; n <= 4100; n++ {
		parseFault(t, manyNodes(n), impl.CodeSize, 0)
		parseFault(t, manyNodes(n)+"x", impl.CodeParse, len(manyNodes(n)))
		parseFault(t, manyNodes(n)+" let", impl.CodeParse, len(manyNodes(n))+4)
	}
	parseFits(t, strings.Repeat("call f();", 555))
}

func TestParseOfDeepestTrees(t *testing.T) {
	rep := strings.Repeat
	forms := map[string]func(n int) string{ // the tree has n nodes below each other
		"unary":  func(n int) string { return "let x = " + rep("-", n-3) + "1;" },
		"nots":   func(n int) string { return "let x = " + rep("!", n-3) + "a;" },
		"left":   func(n int) string { return "let x = 1" + rep("-1", n-3) + ";" },
		"right":  func(n int) string { return "let x = " + rep("1-(", n-3) + "1" + rep(")", n-3) + ";" },
		"last":   func(n int) string { return "zone 0, 0 to 0, 0 cost " + rep("-", n-3) + "1;" },
		"else":   func(n int) string { return rep("if a { } else ", n-3) + "if a { }" },
		"blocks": func(n int) string { return oneMore(n, rep("if a { ", (n-3)/2), rep(" }", (n-3)/2)) },
		"loops":  func(n int) string { return oneMore(n, rep("for i = 1 to 2 { ", (n-3)/2), rep(" }", (n-3)/2)) },
		"elses":  func(n int) string { return oneMore(n, rep("if a { } else { ", (n-3)/2), rep(" }", (n-3)/2)) },
		"macro":  func(n int) string { return "macro m() { let x = " + rep("-", n-5) + "1; }" },
		"call":   func(n int) string { return "call f(1, " + rep("-", n-3) + "1);" },
	}
	for name, form := range forms {
		for n := 57; n <= 63; n++ {
			if n <= 60 {
				parseFits(t, form(n))
			} else {
				parseFault(t, form(n), impl.CodeSize, 0)
				parseFault(t, form(n)+" }", impl.CodeParse, len(form(n))+1)
			}
			if tree, _, code, _ := impl.Parse([]byte(form(n))); code == impl.CodeOK && deepest(tree) != n {
				t.Errorf("%s: %d deep, not %d", name, deepest(tree), n)
			}
		}
	}
	parseFault(t, rep("(", 5000), impl.CodeParse, 0)
	parseFault(t, "let x = "+rep("-", 4992), impl.CodeParse, 5000)
	parseFault(t, "let x = "+rep("-(", 2496), impl.CodeParse, 5000)
	parseFault(t, "let x = "+rep("1+", 2496), impl.CodeParse, 5000)
	parseFault(t, "let x = "+rep("-", 4990)+"1;", impl.CodeSize, 0)
	parseFault(t, "let x = 1"+rep("+1", 2495)+";", impl.CodeSize, 0)
	parseFault(t, rep("if a{", 1000), impl.CodeParse, 5000)
	parseFault(t, rep("if a{", 800)+rep("}", 800), impl.CodeSize, 0)
	parseFault(t, "if a{}"+rep("else if a{}", 454), impl.CodeSize, 0)
	parseFits(t, "let x = "+rep("(", 2000)+"1"+rep(")", 2000)+";")
}

// oneMore closes blocks with a statement and its leaf inside, and with one node more for even n.
func oneMore(n int, before, behind string) string {
	return before + "let x = " + strings.Repeat("-", (n-3)%2) + "1;" + behind
}

func deepest(tree []impl.Node) int {
	var open []int
	most := 0
	for _, n := range tree {
		for len(open) > 0 && open[len(open)-1] == 0 {
			open = open[:len(open)-1]
		}
		if len(open) > 0 {
			open[len(open)-1]--
		}
		open = append(open, n.Count)
		most = max(most, len(open))
	}
	return most
}

// extent is the memory of a list, with what lies behind its length.
type extent struct{ from, to uintptr }

func extentOf[T any](list []T) extent {
	var x T
	from := uintptr(unsafe.Pointer(unsafe.SliceData(list)))
	return extent{from, from + uintptr(cap(list))*unsafe.Sizeof(x)}
}

func treeExtents(tree []impl.Node) []extent {
	all := []extent{extentOf(tree)}
	for _, n := range tree {
		all = append(all, extentOf(n.Text), extentOf(n.Names), extentOf(n.Types))
		for _, s := range n.Names {
			all = append(all, extentOf(s))
		}
	}
	return all
}

func shareNone(t *testing.T, what string, all []extent) {
	t.Helper()
	all = slices.DeleteFunc(all, func(x extent) bool { return x.from == x.to })
	slices.SortFunc(all, func(x, y extent) int { return cmp.Compare(x.from, y.from) })
	for i := 1; i < len(all); i++ {
		if all[i].from < all[i-1].to {
			t.Errorf("%s: two lists share memory", what)
			return
		}
	}
}

func TestParseIsNewMemory(t *testing.T) {
	src := `macro m(int a, text bb, int a) { let x = "text" & "" & a; } macro n() { } for i = 1 to 2 { if true { call m(i, "b", 3); } else { lane 1, 1 west; } } station "b" & "text" at x, a;`
	memory := append([]byte(src), ` grid 1, 1; "`...)
	before := slices.Clone(memory)
	tree, places, code, _ := impl.Parse(memory[:len(src)])
	if code != impl.CodeOK || !bytes.Equal(memory, before) {
		t.Fatalf("%d, %q", code, memory)
	}
	again, placesAgain, _, _ := impl.Parse(memory[:len(src)])
	all := append(treeExtents(tree), treeExtents(again)...)
	all = append(all, extentOf(memory), extentOf(places), extentOf(placesAgain))
	shareNone(t, "Parse", all)
	clear(memory)
	if !sameTree(tree, again) || string(tree[1].Names[2]) != "bb" {
		t.Errorf("the tree hangs on the source")
	}
	for n := range len(src) {
		cut := append([]byte(nil), src...)[:n]
		t1, p1, c1, a1 := impl.Parse(cut)
		t2, p2, c2, a2 := impl.Parse([]byte(src[:n]))
		if c1 != c2 || a1 != a2 || !sameTree(t1, t2) || !slices.Equal(p1, p2) {
			t.Fatalf("%q hangs on what lies behind", src[:n])
		}
	}
	if tree, places, code, at := impl.Parse(nil); len(tree) != 1 || len(places) != 1 || code != impl.CodeOK || at != 0 {
		t.Errorf("nil: %v, %v, %d at %d", tree, places, code, at)
	}
}
