package tests

import (
	"fmt"
	"math"
	"slices"
	"strings"
	"testing"

	"loop.example/s02126/impl"
)

// treeOf reads a source in which ^ may stand ahead of a node, and answers the tree and that node.
func treeOf(t *testing.T, marked string) ([]impl.Node, int) {
	t.Helper()
	at := strings.IndexByte(marked, '^')
	tree, places, code, where := impl.Parse([]byte(strings.Replace(marked, "^", "", 1)))
	if code != impl.CodeOK {
		t.Fatalf("%q: %d at %d", marked, code, where)
	}
	if at < 0 {
		return tree, 0
	}
	node := 1 + slices.Index(places[1:], at)
	if node == 0 {
		t.Fatalf("%q: no node begins there", marked)
	}
	return tree, node
}

// checkOf wants Check to answer so, and Expand to answer no declarations beside a fault of Check.
func checkOf(t *testing.T, what string, tree []impl.Node, code, node int) {
	t.Helper()
	if c, n := wantFault(tree); c != code || n != node {
		t.Fatalf("%s: the test has it wrong, %d at %d, not %d at %d", what, c, n, code, node)
	}
	if c, n := impl.Check(tree); c != code || n != node {
		t.Errorf("Check(%s): %d at %d, not %d at %d", what, c, n, code, node)
	}
	decls, c, n := impl.Expand(tree)
	if code != impl.CodeOK && (c != code || n != node || len(decls) != 0) {
		t.Errorf("Expand(%s): %d declarations, %d at %d, not %d at %d", what, len(decls), c, n, code, node)
	}
	if code == impl.CodeOK && c != impl.CodeOK && c != impl.CodeLimit && c != impl.CodeValue {
		t.Errorf("Expand(%s): %d at %d of a tree that has no fault", what, c, n)
	}
}

func checkAs(t *testing.T, code int, marked ...string) {
	t.Helper()
	for _, src := range marked {
		tree, node := treeOf(t, src)
		checkOf(t, src, tree, code, node)
	}
}

func TestCheckOfNamesThatAreThere(t *testing.T) {
	checkAs(t, impl.CodeOK,
		"",
		"let a = 1; let b = a; wall a, b;",
		"let a = 1; let a = a; let a = a & a; let a = a == a;",
		"let a = 1; if true { let b = a; if a == b { wall a, b; } }",
		"let a = 1; if true { } else { wall a, a; }",
		"let a = true; if false { } else if a { wall 1, 1; }",
		"for i = 1 to 2 { wall i, i; for j = i to i { wall i, j; } }",
		"let i = 1; for i = i to i { } wall i, i;",
		"for i = 1 to 2 { for i = i to i { wall i, i; } wall i, i; }",
		"for i = 1 to 2 { let i = \"t\" & i; station i at 1, 1; }",
		"let a = 1; for i = 1 to 2 { let a = true; if a { } } wall a, a;",
		"let a = 1; if true { let a = true; if a { } } wall a, a;",
		"macro f(int a, text b) { wall a, a; station b at a, a; if a == 1 { wall a, a; } }",
		"macro f(int a) { let a = \"t\"; station a at 1, 1; }",
		"macro f(int a) { for a = a to a { wall a, a; } wall a, a; }",
		"macro f(text a) { if true { let a = 1; wall a, a; } station a at 1, 1; }",
		"call f(); macro f() { }",
		"macro f() { call g(); } macro g() { call f(); }",
		"macro f() { if false { call f(); } }",
		"for i = 1 to 2 { if true { call f(i); } } macro f(int i) { }",
		"let f = 1; macro f(int f) { let f = f; call f(f); } for f = f to f { call f(f); wall f, f; }",
		"macro a(int b) { } macro b(int a) { } let a = 1; let b = 2; call a(b); call b(a);",
		"macro f(int a) { } macro g(int a) { wall a, a; } let a = 1;",
		"macro f(int a, int A, int _a, int a_) { }",
		"let a = 1; macro f() { let a = \"t\"; station a at 0, 0; } wall a, a;",
	)
}

func TestCheckOfNameFaults(t *testing.T) {
	checkAs(t, impl.CodeName,
		"let b = ^a;", "let a = ^a;", "wall ^a, 1; let a = 1;",
		"call f(^a); macro f(int x) { }", "^call f();", "^call f(a);", "^call f(1 + true);",
		"let f = 1; ^call f();", "for f = 1 to 2 { ^call f(); }", "macro g(int f) { ^call f(); }",
		"macro f() { } wall ^f, 1;", "macro f() { wall ^f, 1; }", "macro f(int g) { } ^call g();",
		"macro f() { } ^macro f() { }", "macro f() { } ^macro f(int a) { } macro f() { }", "macro f() { } macro g() { } ^macro f() { } call f();",
		"call f(); macro f() { } ^macro f() { } call g();",
		"^macro f(int a, int a) { }", "^macro f(int a, text a) { }", "^macro f(int a, int b, int c, text a) { }", "^macro f(int a, int b, text b) { wall x, y; }",
		"^macro f(int p, int q, int r, int s, int t, int u, int v, int w, int x, int w) { }",
		"^macro f(int a, int a) { } macro f() { }", "macro f() { } ^macro f(int a, int a) { }",
		"macro f(int f, int g) { } macro g(int g) { } ^macro f(int a) { }",
		"for i = ^i to 2 { }", "for i = 1 to ^i { }", "for i = 1 to 2 { } wall ^i, 1;", "for i = 1 to 2 { wall i, ^j; for j = 1 to 2 { } }",
		"for i = 1 to 2 { for j = ^j to 2 { } }", "for i = 1 to 2 { for j = i to ^j { } }",
		"for i = 1 to 2 { let a = i; } wall ^a, 1;", "for i = 1 to 2 { wall ^a, 1; let a = 1; }",
		"if true { let a = 1; } wall ^a, 1;", "if true { let a = 1; } else { wall ^a, 1; }", "if true { let a = true; } else if ^a { }",
		"if false { } else { let a = 1; } wall ^a, 1;", "if false { } else if true { let a = 1; } else { wall ^a, 1; }", "if ^a { let a = true; }",
		"if true { if true { let a = 1; } wall ^a, 1; }",
		"macro f(int a) { } wall ^a, 1;", "macro f(int a) { } macro g() { wall ^a, 1; }", "macro f() { let a = 1; } wall ^a, 1;", "macro f() { let a = 1; } macro g() { wall ^a, 1; }",
		"let a = 1; macro f() { wall ^a, 1; }", "macro f() { wall ^a, 1; } let a = 1;", "let a = 1; macro f() { let b = 1; for i = 1 to 2 { wall b, ^a; } }",
		"let a = 1; macro f(int b) { let a = ^a; }", "let a = 1; macro f() { } call f(); macro g() { if ^a == 1 { } }",
		"let a = 1; wall a, 1 + 2 * -(3 - ^b);", "if !(true && ^b) { }", "station \"a\" & ^b at 1, 1;", "zone 1, 1 to 1, 1 cost ^b;", "lane 1, 1 to 1, ^b west;",
		"let A = 1; wall ^a, 1;", "let a = 1; wall ^aa, 1;", "let aa = 1; wall ^a, 1;", "macro f() { } ^call F();",
	)
}

// Of several faults of names the first node is told, and it comes ahead of all faults of types.
func TestCheckOfSeveralNameFaults(t *testing.T) {
	checkAs(t, impl.CodeName,
		"wall ^a, b;", "wall 1, ^a; wall b, 1;", "let a = ^b + c; let d = e;", "^call f(a, b);", "macro f(int a, int b) { } call f(^x, y);",
		"call f(^x); macro f() { } macro f() { }", "macro f() { } ^macro f() { wall a, 1; call g(); }", "^macro f(int a, int a) { wall b, 1; }",
		"macro f() { ^call g(); } let a = b;", "let a = ^b; macro f(int a, int a) { }", "macro f() { wall ^a, 1; } macro f() { }",
		"for i = ^a to b { wall c, 1; }", "for i = 1 to 2 { wall ^c, 1; } call g();", "if ^a { wall b, 1; } else { wall c, 1; }",
		"if true { wall ^b, 1; } else { wall c, 1; }", "if true { } else if ^a { wall c, 1; } else { call f(); }", "^call f(); call g();",
		"let a = !1; let b = ^c;", "let b = ^c; let a = !1;", "if 1 { wall ^a, 1; }", "wall true, ^a;", "wall ^a, true;", "let a = (1 + true) & ^b;", "let a = ^b & (1 + true);",
		"call f(1); macro f() { wall ^a, 1; }", "macro f(int a) { } call f(true); ^call g();", "let a = 1 + true; let b = a; ^call g(b);",
		"wall true, true; macro f() { } ^macro f() { }", "wall true, true; ^macro f(int a, int a) { }", "for i = true to 2 { for j = 1 to ^j { } }",
	)
}

var typed = []struct {
	letter byte
	forms  []sprout // a leaf, a variable, an operation of this type
}{
	{'i', []sprout{number(1), variable("i"), bin(impl.OpAdd, number(1), variable("i"))}},
	{'t', []sprout{quoted("s"), variable("t"), bin(impl.OpCat, variable("i"), number(2))}},
	{'b', []sprout{pointed(impl.NodeBool, 1), variable("b"), bin(impl.OpLt, number(1), variable("i"))}},
}

// within is a program in which i, t and b have these types, and at its end a statement.
func within(s sprout) sprout {
	return program(let("i", number(1)), let("t", quoted("s")), let("b", pointed(impl.NodeBool, 1)), s)
}

// rows are all lists of n numbers below 3.
func rows(n int) [][]int {
	all := [][]int{nil}
	for range n {
		var longer [][]int
		for _, row := range all {
			for x := range 3 {
				longer = append(longer, append(slices.Clone(row), x))
			}
		}
		all = longer
	}
	return all
}

// Every operation with every type of operand, in every form, and what is made of it in turn.
func TestCheckOfOperations(t *testing.T) {
	const at = 8 // of the expression
	for op := range operatorSigns {
		for _, row := range rows(4) {
			left, right := typed[row[0]], typed[row[1]]
			e := bin(op, left.forms[row[2]], right.forms[row[3]])
			code, node := impl.CodeType, at
			letters := string([]byte{left.letter, right.letter})
			if strings.Contains(operatorAllows(op), letters) {
				code, node = impl.CodeOK, 0
			}
			checkOf(t, fmt.Sprint(operatorSigns[op], letters), within(let("x", e)).flat(), code, node)
			if code == impl.CodeOK {
				typeIs(t, e, operatorGives[op])
			}
		}
	}
	for i, x := range typed {
		for _, form := range x.forms {
			typeIs(t, form, x.letter)
			want := []int{impl.CodeType, impl.CodeType}
			if i == impl.TypeBool {
				want[0] = impl.CodeOK
				typeIs(t, not(form), 'b')
			}
			if i == impl.TypeInt {
				want[1] = impl.CodeOK
				typeIs(t, neg(form), 'i')
			}
			for j, e := range []sprout{not(form), neg(form)} {
				checkOf(t, "a unary one", within(let("x", e)).flat(), want[j], want[j]/impl.CodeType*at)
			}
		}
	}
}

func operatorAllows(op int) string {
	switch operatorSigns[op] {
	case "||", "&&":
		return "bb"
	case "==", "!=":
		return "ii tt bb"
	case "&":
		return "ii it ti tt"
	}
	return "ii"
}

// typeIs wants an expression to have a type, told by statements that take only one, and by those behind a NodeLet.
func typeIs(t *testing.T, e sprout, letter byte) {
	t.Helper()
	places := map[byte]func(e sprout) sprout{
		'i': func(e sprout) sprout { return kind(impl.NodeGrid, number(1), e) },
		't': func(e sprout) sprout { return kind(impl.NodeStation, e, number(1), number(1)) },
		'b': func(e sprout) sprout { return kind(impl.NodeIf, e, block()) },
	}
	for l, place := range places {
		code, node := impl.CodeOK, 0
		if l != letter {
			code, node = impl.CodeType, 7
		}
		checkOf(t, "a type", within(place(e)).flat(), code, node)
		p := within(let("x", e))
		if code != impl.CodeOK {
			node = len(p.flat())
		}
		p.kids = append(p.kids, place(variable("x")))
		checkOf(t, "a type behind a let", p.flat(), code, node)
	}
}

// Every kind of statement with every type at every position.
func TestCheckOfStatements(t *testing.T) {
	forms := []struct {
		kind int
		want string // the types it takes
	}{
		{impl.NodeFor, "ii"}, {impl.NodeIf, "b"}, {impl.NodeGrid, "ii"}, {impl.NodeWall, "ii"}, {impl.NodeWall, "iiii"}, {impl.NodeOpen, "ii"},
		{impl.NodeOpen, "iiii"}, {impl.NodeLane, "ii"}, {impl.NodeLane, "iiii"}, {impl.NodeGate, "ii"}, {impl.NodeBar, "ii"}, {impl.NodeZone, "iii"},
		{impl.NodeZone, "iiiii"}, {impl.NodeStation, "tii"}, {impl.NodeCharger, "tii"},
	}
	for _, f := range forms {
		for _, row := range rows(len(f.want)) {
			for form := range 3 {
				s := kind(f.kind)
				var given []byte
				for _, x := range row {
					s.kids = append(s.kids, typed[x].forms[form])
					given = append(given, typed[x].letter)
				}
				switch f.kind {
				case impl.NodeFor:
					s.node.Names = names("x")
					s.kids = append(s.kids, block())
				case impl.NodeIf:
					s.kids = append(s.kids, block())
				}
				code, node := impl.CodeOK, 0
				if string(given) != f.want {
					code, node = impl.CodeType, 7
				}
				checkOf(t, fmt.Sprint("kind ", f.kind, " of ", string(given)), within(s).flat(), code, node)
			}
		}
	}
	for _, x := range typed {
		for _, form := range x.forms {
			checkOf(t, "a let", within(let("x", form)).flat(), impl.CodeOK, 0)
		}
	}
	checkAs(t, impl.CodeType,
		"^if 1 { } else { }", "^if 1 { } else if true { }", "if true { } else ^if 1 { }", "if true { } else if false { } else ^if \"\" { } else { }",
		"if true { ^if 1 { } }", "if true { } else { ^if 1 { } }", "for i = 1 to 2 { ^for j = true to i { } }", "for i = 1 to 2 { ^if i { } }", "macro f() { ^grid true, 1; }",
	)
}

// Every list of parameters with every list of arguments, up to three of each.
func TestCheckOfCalls(t *testing.T) {
	for n := range 4 {
		for _, params := range rows(n) {
			if slices.Contains(params, impl.TypeBool) {
				continue
			}
			f := macro("f", []string{"p", "q", "r"}[:n], params, block())
			for m := range 4 {
				for _, row := range rows(m) {
					call := named(impl.NodeCall, "f")
					for i, x := range row {
						call.kids = append(call.kids, typed[x].forms[i])
					}
					code, node := impl.CodeOK, 0
					if !slices.Equal(params, row) {
						code, node = impl.CodeType, 7
					}
					what := fmt.Sprint("a call of ", params, " with ", row)
					p := within(call)
					p.kids = append(p.kids, f)
					checkOf(t, what, p.flat(), code, node)
					p.kids = append([]sprout{f}, p.kids[:4]...)
					checkOf(t, what, p.flat(), code, node+2*node/7)
				}
			}
		}
	}
	checkAs(t, impl.CodeType,
		"macro f(int a) { ^call f(); }", "macro f(text a) { ^call f(1); } call f(1);", "macro f(int a, text b) { if false { ^call f(b, a); } }",
		"macro f(int p, int q, int r, int s, int t, int u, int v, int w, int x, int y) { } ^call f(1, 2, 3, 4, 5, 6, 7, 8, 9);",
		"macro f(int p, int q, int r, int s, int t, int u, int v, int w, int x) { } ^call f(1, 2, 3, 4, 5, 6, 7, 8, 9, 10);",
		"macro f(int p, int q, int r, int s, int t, int u, int v, int w, int x, text y) { } ^call f(1, 2, 3, 4, 5, 6, 7, 8, 9, 10);",
		"macro f(int a) { } macro g() { } ^call f(); call g();", "macro f(int a) { } macro g(text a) { } call f(1); ^call g(1);",
	)
	checkAs(t, impl.CodeOK, "macro f(int p, int q, int r, int s, int t, int u, int v, int w, int x, text y) { } call f(1, 2, 3, 4, 5, 6, 7, 8, 9, \"\");")
}

func TestCheckOfSeveralTypeFaults(t *testing.T) {
	checkAs(t, impl.CodeType,
		"let a = !^!1;", "let a = -^!1;", "let a = (1 ^+ true) + true;", "let a = true + (1 ^+ true);", "let a = (1 ^+ true) == (2 + true);",
		"let a = 1 == 1 && (1 ^== true);", "let a = (1 ^< true) && 1;", "let a = 1 && (1 ^< true);", "let a = 1 & (true ^& 1) & true;", "let a = \"s\" ^+ 1 & true;",
		"wall ^!1, !2;", "wall true, ^!2;", "wall ^!1, true;", "wall 1, 1 to ^-true, true;", "station ^!1 at true, 1;", "station 1 at ^!1, 1;", "station ^-true at 1, 1;",
		"^wall true, 1; wall 1, true;", "wall 1, 1; ^wall 1, true; wall 1, true;",
		"macro f(int a) { } call f(^!1);", "macro f(int a) { } call f(true, ^!1);", "macro f(int a) { } call f(^!1, true);", "macro f() { } call f(^!1);",
		"for i = ^!1 to true { wall true, 1; }", "for i = true to ^!1 { wall true, 1; }", "^for i = true to 1 { wall true, 1; }",
		"for i = 1 to 2 { ^wall true, 1; } wall true, 1;", "^for i = true to 1 { wall i, i; if i { } }",
		"if ^!1 { if 1 { } }", "^if 1 { if 1 { } } else { if 1 { } }", "if true { ^if 1 { } } else { if 1 { } }", "if true { } else { ^if 1 { } } if 1 { }",
		"if true { } else if ^-true { } else { wall true, 1; }", "if 1 == 2 { wall 1, ^!1; } else if 1 { }",
		"let a = ^!1; if a { } wall a, a; station a at a, a;", "let a = ^!1; let b = a; let c = b + a; if c { } if 1 { }", "let a = ^!1; wall !1, a;",
		"let a = 1; let a = ^!a; let a = a + 1; wall a, 1;", "let a = ^!1; let a = 1; if a { }", "let a = true; ^wall a, 1; let a = 1; wall a, 1;",
		"let a = ^-\"s\"; macro f(int a) { if a { } }", "macro f(int a) { let a = ^!a; if a { } } let a = 1; if a { }",
		"macro f(int a) { ^if a { } } call f(true);", "^call f(true); macro f(int a) { if a { } }", "let a = 1; if true { let a = true; ^wall a, 1; } if a { }",
		"let a = 1; if true { let a = true; } wall a, 1; ^if a { }", "for i = 1 to 2 { let i = true; ^wall i, 1; }", "for i = 1 to 2 { if true { let i = true; if i { } } ^if i { } }",
		"let i = true; for i = 1 to 2 { wall i, i; } ^wall i, i;", "let a = 1; macro f(text a) { ^wall a, 1; } wall a, 1;",
	)
}

// A node above an expression without a type is no fault, wherever that stands: the one fault is that below.
func TestCheckOfFaultsBelowFaults(t *testing.T) {
	fault := not(number(1))
	places := []func(e sprout) sprout{
		func(e sprout) sprout { return not(e) }, func(e sprout) sprout { return neg(e) },
	}
	for op := range operatorSigns {
		for _, x := range typed {
			places = append(places, func(e sprout) sprout { return bin(op, e, x.forms[0]) })
		}
	}
	for _, outer := range places {
		for _, inner := range places {
			e := outer(inner(fault))
			at := 8 + slices.IndexFunc(e.flat(), func(n impl.Node) bool { return n.Kind == impl.NodeInt })
			checkOf(t, "below", within(let("x", e)).flat(), impl.CodeType, at-1)
			s := kind(impl.NodeStation, e, variable("b"), number(1))
			checkOf(t, "below a statement", within(s).flat(), impl.CodeType, at-1)
		}
	}
}

func TestCheckOfTreesThatAreNotValid(t *testing.T) {
	checkOf(t, "nil", nil, impl.CodeBad, 0)
	checkOf(t, "no nodes", []impl.Node{}, impl.CodeBad, 0)
	checkOf(t, "an empty program", []impl.Node{{}}, impl.CodeOK, 0)
	checkOf(t, "a chain without an end", []impl.Node{{Count: 1}, {Kind: impl.NodeLet, Names: names("x"), Count: 1}, {Kind: impl.NodeNeg, Count: 1}}, impl.CodeBad, 0)
	checkOf(t, "two programs", []impl.Node{{}, {}}, impl.CodeBad, 0)
	checkOf(t, "a statement alone", let("x", number(1)).flat(), impl.CodeBad, 0)
	checkOf(t, "a macro in a block", program(kind(impl.NodeIf, a, block(macro("m", nil, nil, block())))).flat(), impl.CodeBad, 0)
	checkOf(t, "a type of a parameter", program(macro("m", []string{"p"}, []int{2}, block())).flat(), impl.CodeBad, 0)
	checkOf(t, "a macro without a name", []impl.Node{{Count: 1}, {Kind: impl.NodeMacro, Count: 1}, {Kind: impl.NodeBlock}}, impl.CodeBad, 0)
	checkOf(t, "a variable without a name", program(let("x", kind(impl.NodeVar))).flat(), impl.CodeBad, 0)
	checkOf(t, "a call without a name", program(kind(impl.NodeCall)).flat(), impl.CodeBad, 0)
	for _, n := range []int{-1, math.MinInt, math.MaxInt} {
		checkOf(t, "a Count", []impl.Node{{Count: n}}, impl.CodeBad, 0)
		checkOf(t, "an operation", program(let("x", bin(n, number(1), number(1)))).flat(), impl.CodeBad, 0)
		checkOf(t, "a number", program(let("x", number(n))).flat(), impl.CodeBad, 0)
		checkOf(t, "a kind", program(kind(n)).flat(), impl.CodeBad, 0)
	}
	checkOf(t, "4001 nodes", program(calls(4000)...).flat(), impl.CodeBad, 0)
	checkOf(t, "4000 nodes", program(calls(3999)...).flat(), impl.CodeName, 1)
	for _, whole := range wholes() {
		for i := range whole {
			checkOf(t, "cut off", whole[:i], impl.CodeBad, 0)
		}
	}
}

// Trees as they come: nearly all have faults of names.
func TestCheckOfAnyTrees(t *testing.T) {
	for seed := range int64(1500) {
		p := newSower(20000 + seed).program(6)
		tree := p.flat()
		code, node := wantFault(tree)
		checkOf(t, "a sown tree", tree, code, node)
		i := int(seed) % len(tree)
		tree[i].Count++
		code, node = wantFault(tree)
		checkOf(t, "a sown tree with another Count", tree, code, node)
	}
}

// Programs that mean something, with slips: what Check answers is what each node is, looked at on its own.
func TestCheckOfPrograms(t *testing.T) {
	met := map[int]int{}
	for seed := range int64(3000) {
		p := newAuthor(seed, []int{30, 60, 120}[seed%3]).program()
		tree := p.flat()
		code, node := wantFault(tree)
		met[code]++
		if c, n := impl.Check(tree); c != code || n != node {
			t.Fatalf("%s\n%d at %d, not %d at %d", impl.PrintTree(tree), c, n, code, node)
		}
	}
	if met[impl.CodeOK] < 500 || met[impl.CodeName] < 500 || met[impl.CodeType] < 500 {
		t.Errorf("%v", met)
	}
}

// The greatest trees are checked soon, however much is bound in them.
func TestCheckOfGreatTrees(t *testing.T) {
	p := program(let("a", number(1)))
	for range 990 {
		p.kids = append(p.kids, let("a", bin(impl.OpAdd, a, a)))
	}
	checkOf(t, "lets", p.flat(), impl.CodeOK, 0)
	p.kids = append(p.kids, let("b", b))
	checkOf(t, "lets", p.flat(), impl.CodeName, len(p.flat())-1)
	p.kids[991] = let("b", bin(impl.OpAnd, a, a))
	checkOf(t, "lets", p.flat(), impl.CodeType, len(p.flat())-3)
	nest := block(let("x", variable("n")))
	for range 27 {
		nest = block(named(impl.NodeFor, "i", number(1), variable("n"), nest))
	}
	tree := program(let("n", number(1)), kind(impl.NodeIf, pointed(impl.NodeBool, 1), nest)).flat()
	checkOf(t, "blocks", tree, impl.CodeOK, 0)
	tree[len(tree)-1].Names = names("m")
	checkOf(t, "blocks", tree, impl.CodeName, len(tree)-1)
}
