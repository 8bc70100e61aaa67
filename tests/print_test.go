package tests

import (
	"slices"
	"strings"
	"testing"

	"loop.example/s02126/impl"
)

// printAs wants a tree to be valid, to be written so, and to be read again from that.
func printAs(t *testing.T, s sprout, want string) {
	t.Helper()
	tree := s.flat()
	if !impl.ValidTree(tree) {
		t.Errorf("%v is not valid", tree)
		return
	}
	got := impl.PrintTree(tree)
	if string(got) != want {
		t.Errorf("PrintTree: %q, not %q", got, want)
	}
	thereAndBack(t, tree, got)
}

func thereAndBack(t *testing.T, tree []impl.Node, text []byte) {
	t.Helper()
	if len(text) > impl.MaxSource {
		return
	}
	again, places, code, at := impl.Parse(text)
	if code != impl.CodeOK || at != 0 || len(places) != len(tree) || !sameTree(again, tree) {
		t.Errorf("Parse(%q): %v, %d at %d, not %v", text, again, code, at, tree)
	}
}

func TestPrintStatements(t *testing.T) {
	n := number
	empty := block()
	printAs(t, program(), "")
	printAs(t, program(let("x", n(1))), "let x = 1;\n")
	printAs(t, program(named(impl.NodeCall, "m")), "call m();\n")
	printAs(t, program(named(impl.NodeCall, "m", a)), "call m(a);\n")
	printAs(t, program(named(impl.NodeCall, "m", a, b, bin(impl.OpAdd, a, b))), "call m(a, b, a + b);\n")
	printAs(t, program(kind(impl.NodeGrid, n(3), n(4))), "grid 3, 4;\n")
	printAs(t, program(kind(impl.NodeWall, n(1), n(2))), "wall 1, 2;\n")
	printAs(t, program(kind(impl.NodeOpen, n(1), n(2))), "open 1, 2;\n")
	printAs(t, program(kind(impl.NodeWall, n(1), n(2), n(3), n(4))), "wall 1, 2 to 3, 4;\n")
	printAs(t, program(kind(impl.NodeOpen, n(1), n(2), n(3), n(4))), "open 1, 2 to 3, 4;\n")
	for way, word := range wayNames {
		printAs(t, program(pointed(impl.NodeLane, way, n(1), n(2))), "lane 1, 2 "+word+";\n")
		printAs(t, program(pointed(impl.NodeLane, way, n(1), n(2), n(3), n(4))), "lane 1, 2 to 3, 4 "+word+";\n")
		printAs(t, program(pointed(impl.NodeGate, way, n(1), n(2))), "gate 1, 2 "+word+";\n")
		printAs(t, program(pointed(impl.NodeBar, way, n(1), n(2))), "bar 1, 2 "+word+";\n")
	}
	printAs(t, program(kind(impl.NodeZone, n(1), n(2), n(3))), "zone 1, 2 cost 3;\n")
	printAs(t, program(kind(impl.NodeZone, n(1), n(2), n(3), n(4), n(5))), "zone 1, 2 to 3, 4 cost 5;\n")
	printAs(t, program(kind(impl.NodeStation, quoted("s"), n(1), n(2))), "station \"s\" at 1, 2;\n")
	printAs(t, program(kind(impl.NodeCharger, bin(impl.OpCat, quoted("s"), a), n(1), n(2))), "charger \"s\" & a at 1, 2;\n")
	printAs(t, program(macro("m", nil, nil, empty)), "macro m() {\n}\n")
	printAs(t, program(macro("m", []string{"a"}, []int{0}, empty)), "macro m(int a) {\n}\n")
	printAs(t, program(macro("m", []string{"a", "b", "a"}, []int{1, 0, 1}, empty)), "macro m(text a, int b, text a) {\n}\n")
	printAs(t, program(named(impl.NodeFor, "i", a, b, empty)), "for i = a to b {\n}\n")
	printAs(t, program(kind(impl.NodeIf, a, empty)), "if a {\n}\n")
	printAs(t, program(kind(impl.NodeIf, a, empty, empty)), "if a {\n} else {\n}\n")
	printAs(t, program(kind(impl.NodeIf, a, empty, kind(impl.NodeIf, b, empty))), "if a {\n} else if b {\n}\n")
	printAs(t, program(kind(impl.NodeIf, a, empty, block(kind(impl.NodeIf, b, empty)))), "if a {\n} else {\n  if b {\n  }\n}\n")
	printAs(t, program(let("x", a), let("y", b)), "let x = a;\nlet y = b;\n")
}

func TestPrintBlocks(t *testing.T) {
	inner := kind(impl.NodeIf, a, block(let("x", a)), kind(impl.NodeIf, b, block(let("y", b), let("z", c)), block(let("u", a))))
	lines := []string{
		"macro m() {",
		"  for i = a to b {",
		"    if a {",
		"      let x = a;",
		"    } else if b {",
		"      let y = b;",
		"      let z = c;",
		"    } else {",
		"      let u = a;",
		"    }",
		"    call m();",
		"  }",
		"  grid a, b;",
		"}",
		"for i = a to b {",
		"  if a {",
		"    let x = a;",
		"  } else if b {",
		"    let y = b;",
		"    let z = c;",
		"  } else {",
		"    let u = a;",
		"  }",
		"}",
		"",
	}
	printAs(t, program(
		macro("m", nil, nil, block(named(impl.NodeFor, "i", a, b, block(inner, named(impl.NodeCall, "m"))), kind(impl.NodeGrid, a, b))),
		named(impl.NodeFor, "i", a, b, block(inner)),
	), strings.Join(lines, "\n"))
}

func exprAs(t *testing.T, e sprout, want string) {
	t.Helper()
	printAs(t, program(let("x", e)), "let x = "+want+";\n")
}

func TestPrintExpressions(t *testing.T) {
	exprAs(t, number(0), "0")
	exprAs(t, number(99999), "99999")
	exprAs(t, pointed(impl.NodeBool, 1), "true")
	exprAs(t, pointed(impl.NodeBool, 0), "false")
	exprAs(t, quoted(""), `""`)
	exprAs(t, quoted("a\"\\\n\x7få"), `"a\"\\\u{a}\u{7f}å"`)
	exprAs(t, neg(number(1)), "-1")
	exprAs(t, neg(neg(number(1))), "--1")
	exprAs(t, not(neg(not(a))), "!-!a")
	exprAs(t, neg(bin(impl.OpMul, a, b)), "-(a * b)")
	exprAs(t, not(bin(impl.OpOr, a, b)), "!(a || b)")
	exprAs(t, bin(impl.OpSub, neg(a), neg(b)), "-a - -b")
	exprAs(t, bin(impl.OpMul, neg(bin(impl.OpAdd, a, b)), c), "-(a + b) * c")
	for op, x := range operatorSigns {
		exprAs(t, bin(op, a, b), "a "+x+" b")
		exprAs(t, bin(op, not(a), neg(b)), "!a "+x+" -b")
		exprAs(t, bin(op, quoted("a"), pointed(impl.NodeBool, 1)), "\"a\" "+x+" true")
		for op2, y := range operatorSigns {
			left, right := "(a "+x+" b) "+y+" c", "c "+y+" (a "+x+" b)"
			if lineOf(op) >= lineOf(op2) {
				left = "a " + x + " b " + y + " c"
			}
			if lineOf(op) > lineOf(op2) {
				right = "c " + y + " a " + x + " b"
			}
			exprAs(t, bin(op2, bin(op, a, b), c), left)
			exprAs(t, bin(op2, c, bin(op, a, b)), right)
			exprAs(t, bin(op2, neg(bin(op, a, b)), c), "-(a "+x+" b) "+y+" c")
			exprAs(t, bin(op2, c, not(bin(op, a, b))), "c "+y+" !(a "+x+" b)")
		}
	}
}

// Parentheses stand only where the text would mean another tree without them.
func TestPrintNeedsItsParentheses(t *testing.T) {
	for op := range operatorSigns {
		for op2 := range operatorSigns {
			for _, e := range []sprout{bin(op2, bin(op, a, b), c), bin(op2, c, bin(op, a, b))} {
				tree := program(let("x", e)).flat()
				text := string(impl.PrintTree(tree))
				bare := strings.NewReplacer("(", "", ")", "").Replace(text)
				again, _, _, _ := impl.Parse([]byte(bare))
				if bare != text && sameTree(again, tree) {
					t.Errorf("%q", text)
				}
			}
		}
	}
}

func TestPrintOfAllTrees(t *testing.T) {
	short := 0
	for seed := range int64(1500) {
		p := newSower(5000 + seed).program(8)
		tree := p.flat()
		if p.deep() > 60 || len(tree) > 4000 {
			continue
		}
		got := impl.PrintTree(tree)
		if string(got) != wantPrint(p) {
			t.Fatalf("%q, not %q", got, wantPrint(p))
		}
		if len(got) <= impl.MaxSource {
			short++
		}
		thereAndBack(t, tree, got)
		if again, _, _, _ := impl.Parse(got); len(got) <= impl.MaxSource && string(impl.PrintTree(again)) != string(got) {
			t.Fatalf("%q is written in another way the second time", got)
		}
	}
	if short < 1000 {
		t.Errorf("only %d trees", short)
	}
}

// The greatest trees are written too, whatever their texts then need.
func TestPrintOfGreatTrees(t *testing.T) {
	deep := a
	for range 57 {
		deep = neg(deep)
	}
	exprAs(t, deep, strings.Repeat("-", 57)+"a")
	left, right := a, a
	for range 57 {
		left, right = bin(impl.OpSub, left, b), bin(impl.OpSub, b, right)
	}
	exprAs(t, left, "a"+strings.Repeat(" - b", 57))
	exprAs(t, right, strings.Repeat("b - (", 56)+"b - a"+strings.Repeat(")", 56))
	p := program()
	for range 1999 {
		p.kids = append(p.kids, let("x", quoted(strings.Repeat("\x00", 60))))
	}
	line := "let x = \"" + strings.Repeat(`\u{0}`, 60) + "\";\n"
	if got := impl.PrintTree(p.flat()); string(got) != strings.Repeat(line, 1999) {
		t.Errorf("%d bytes", len(got))
	}
	nest := block()
	for range 28 {
		nest = block(kind(impl.NodeIf, a, nest))
	}
	tree := program(kind(impl.NodeIf, a, nest)).flat()
	if got := impl.PrintTree(tree); strings.Count(string(got), "\n") != 58 || !strings.Contains(string(got), "\n"+strings.Repeat("  ", 28)+"}\n") {
		t.Errorf("%q", got)
	}
	thereAndBack(t, tree, impl.PrintTree(tree))
}

func TestPrintIsNewMemory(t *testing.T) {
	p := program(macro("m", []string{"a", "b"}, []int{0, 1}, block(let("x", quoted("text")))), kind(impl.NodeGrid, a, number(1)), let("only", quoted("")))
	tree := append(p.flat(), let("y", number(2)).flat()...)
	n := len(p.flat())
	for i := range tree {
		tree[i].Text = append(slices.Clone(tree[i].Text), "behind"...)[:len(tree[i].Text)]
		tree[i].Types = append(slices.Clone(tree[i].Types), 7, 8)[:len(tree[i].Types)]
		tree[i].Names = append(slices.Clone(tree[i].Names), names("behind")...)[:len(tree[i].Names)]
	}
	before := slices.Clone(tree)
	got := impl.PrintTree(tree[: n : n+1])
	again := impl.PrintTree(tree[:n])
	if string(got) != wantPrint(p) || !sameTree(tree, before) {
		t.Fatalf("%q", got)
	}
	for i := range tree {
		types, text := tree[i].Types, tree[i].Text
		if types = types[:len(types)+2]; types[len(types)-1] != 8 || string(text[len(text):len(text)+6]) != "behind" {
			t.Errorf("node %d is written into", i)
		}
	}
	shareNone(t, "PrintTree", append(treeExtents(tree), extentOf(got), extentOf(again)))
	if impl.ValidTree(tree) || len(impl.PrintTree(tree)) != 0 {
		t.Errorf("nodes behind the program's last child")
	}
	tree[0].Count++
	if impl.ValidTree(tree[:n]) || len(impl.PrintTree(tree[:n])) != 0 {
		t.Errorf("a child is taken that lies behind the list")
	}
	if !impl.ValidTree(tree) {
		t.Errorf("not valid with its last child")
	}
}
