package tests

import (
	"bytes"
	"fmt"
	"math/big"
	"reflect"
	"slices"
	"strconv"
	"strings"
	"testing"

	"loop.example/s02126/impl"
)

func sameDecl(a, b impl.Decl) bool {
	sameName := bytes.Equal(a.Name, b.Name)
	a.Name, b.Name = nil, nil
	return sameName && reflect.DeepEqual(a, b)
}

func sameDecls(a, b []impl.Decl) bool {
	return slices.EqualFunc(a, b, sameDecl)
}

// listed writes declarations with all their fields but Node; a second cell, a Dir, a Cost and a Name where they are not
// the first cell, 0 or empty.
func listed(decls []impl.Decl) string {
	var out []string
	for _, d := range decls {
		s := fmt.Sprintf("%s %d,%d", statWords[d.Kind-impl.NodeLet], d.X1, d.Y1)
		if d.X2 != d.X1 || d.Y2 != d.Y1 {
			s += fmt.Sprintf(" to %d,%d", d.X2, d.Y2)
		}
		if d.Dir != 0 {
			s += " " + wayNames[d.Dir]
		}
		if d.Cost != 0 {
			s += fmt.Sprint(" cost ", d.Cost)
		}
		if len(d.Name) > 0 {
			s += fmt.Sprintf(" %q", d.Name)
		}
		out = append(out, s)
	}
	return strings.Join(out, "; ")
}

// expandOf wants Expand to answer what putting values in for names comes to, and answers that.
func expandOf(t *testing.T, what string, tree []impl.Node) ([]impl.Decl, int, int, int) {
	t.Helper()
	decls, code, node, steps := wantRun(tree)
	got, c, n := impl.Expand(tree)
	if c != code || n != node {
		t.Errorf("Expand(%s): %d at %d, not %d at %d", what, c, n, code, node)
	}
	if !sameDecls(got, decls) {
		t.Errorf("Expand(%s): %s, not %s", what, listed(got), listed(decls))
	}
	return decls, code, node, steps
}

// expandAs wants a source to mean these declarations.
func expandAs(t *testing.T, src, want string) {
	t.Helper()
	tree, _ := treeOf(t, src)
	decls, code, node, _ := expandOf(t, src, tree)
	if code != impl.CodeOK || node != 0 || listed(decls) != want {
		t.Errorf("%s: the test has it wrong, %s, %d at %d, not %s", src, listed(decls), code, node, want)
	}
}

// stopAs wants sources to stop with a code, at the node that is marked.
func stopAs(t *testing.T, code int, marked ...string) {
	t.Helper()
	for _, src := range marked {
		tree, node := treeOf(t, src)
		what := src[:min(len(src), 100)]
		if _, c, n, _ := expandOf(t, what, tree); c != code || n != node {
			t.Errorf("%s: the test has it wrong, %d at %d, not %d at %d", what, c, n, code, node)
		}
	}
}

func TestExpandDeclarations(t *testing.T) {
	type decl = impl.Decl
	cells := func(d decl, x1, y1, x2, y2 int) decl {
		d.X1, d.Y1, d.X2, d.Y2, d.Node = x1, y1, x2, y2, 1
		return d
	}
	cases := map[string]decl{
		"grid 3, 4;":                  cells(decl{Kind: impl.NodeGrid}, 3, 4, 3, 4),
		"wall 3, 4;":                  cells(decl{Kind: impl.NodeWall}, 3, 4, 3, 4),
		"open 3, 4;":                  cells(decl{Kind: impl.NodeOpen}, 3, 4, 3, 4),
		"wall 3, 4 to 5, 6;":          cells(decl{Kind: impl.NodeWall}, 3, 4, 5, 6),
		"open 3, 4 to 5, 6;":          cells(decl{Kind: impl.NodeOpen}, 3, 4, 5, 6),
		"wall 6, 5 to 4, 3;":          cells(decl{Kind: impl.NodeWall}, 6, 5, 4, 3),
		"wall 3, 4 to 3, 4;":          cells(decl{Kind: impl.NodeWall}, 3, 4, 3, 4),
		"zone 3, 4 cost 7;":           cells(decl{Kind: impl.NodeZone, Cost: 7}, 3, 4, 3, 4),
		"zone 3, 4 cost 0;":           cells(decl{Kind: impl.NodeZone}, 3, 4, 3, 4),
		"zone 3, 4 to 5, 6 cost 7;":   cells(decl{Kind: impl.NodeZone, Cost: 7}, 3, 4, 5, 6),
		"zone 3, 4 cost -99999;":      cells(decl{Kind: impl.NodeZone, Cost: -99999}, 3, 4, 3, 4),
		"grid 0, -4;":                 cells(decl{Kind: impl.NodeGrid}, 0, -4, 0, -4),
		"wall -99999, 0 to 0, 99999;": cells(decl{Kind: impl.NodeWall}, -99999, 0, 0, 99999),
	}
	for i, word := range wayNames {
		cases["lane 3, 4 "+word+";"] = cells(decl{Kind: impl.NodeLane, Dir: i}, 3, 4, 3, 4)
		cases["lane 3, 4 to 5, 6 "+word+";"] = cells(decl{Kind: impl.NodeLane, Dir: i}, 3, 4, 5, 6)
		cases["gate 3, 4 "+word+";"] = cells(decl{Kind: impl.NodeGate, Dir: i}, 3, 4, 3, 4)
		cases["bar 3, 4 "+word+";"] = cells(decl{Kind: impl.NodeBar, Dir: i}, 3, 4, 3, 4)
	}
	for k, word := range map[int]string{impl.NodeStation: "station", impl.NodeCharger: "charger"} {
		for _, name := range []string{"", "a", "dock 1", "å€😀", strings.Repeat("n", 60)} {
			cases[fmt.Sprintf("%s %q at 3, 4;", word, name)] = cells(decl{Kind: k, Name: []byte(name)}, 3, 4, 3, 4)
		}
	}
	for src, want := range cases {
		tree, _ := treeOf(t, src)
		if got, code, node := impl.Expand(tree); code != impl.CodeOK || node != 0 || !sameDecls(got, []decl{want}) {
			t.Errorf("%s: %v, %d at %d, not %v", src, got, code, node, want)
		}
		tree, at := treeOf(t, "let x = 1; ^"+src)
		want.Node = at
		if got, _, _ := impl.Expand(tree); at != 3 || !sameDecls(got, []decl{want}) {
			t.Errorf("%s behind a let: %v, not %v", src, got, want)
		}
	}
	expandAs(t, "", "")
	expandAs(t, "let a = 1; macro f() { wall 1, 1; }", "")
	expandAs(t, "wall 1, 2; grid 3, 4; wall 1, 2; charger \"c\" at 5, 6; station \"c\" at 5, 6; bar 0, 0 west;",
		`wall 1,2; grid 3,4; wall 1,2; charger 5,6 "c"; station 5,6 "c"; bar 0,0 west`)
}

func TestExpandLoops(t *testing.T) {
	expandAs(t, "for i = 1 to 3 { wall i, 0; }", "wall 1,0; wall 2,0; wall 3,0")
	expandAs(t, "for i = 5 to 5 { wall i, 0; }", "wall 5,0")
	expandAs(t, "for i = 5 to 4 { wall i, 0; } for i = 5 to -5 { wall i, 0; } for i = 1 to 0 { wall i, 0; }", "")
	expandAs(t, "for i = -2 to 1 { wall i, 0; }", "wall -2,0; wall -1,0; wall 0,0; wall 1,0")
	expandAs(t, "for i = -3 to -2 { wall i, 0; } for i = -2 to -3 { wall i, 0; } for i = -1 to -1 { wall i, 0; }", "wall -3,0; wall -2,0; wall -1,0")
	expandAs(t, "for i = 99999 * 10 + 9 to 99999 * 10 + 10 { wall i, 0; }", "wall 999999,0; wall 1000000,0")
	expandAs(t, "for i = -99999 * 10 - 10 to -99999 * 10 - 9 { wall i, 0; }", "wall -1000000,0; wall -999999,0")
	expandAs(t, "for i = 1 to 2 { for j = 1 to 2 { wall i, j; } }", "wall 1,1; wall 1,2; wall 2,1; wall 2,2")
	expandAs(t, "for i = 0 to 2 { for j = i to 1 { wall i, j; } }", "wall 0,0; wall 0,1; wall 1,1")
	expandAs(t, "for i = 1 to 2 { for i = i to 2 { wall i, 0; } wall i, 9; }", "wall 1,0; wall 2,0; wall 1,9; wall 2,0; wall 2,9")
	expandAs(t, "for i = 1 to 3 { wall i, 0; let i = i * 10; wall i, 0; }", "wall 1,0; wall 10,0; wall 2,0; wall 20,0; wall 3,0; wall 30,0")
	expandAs(t, "for i = 1 to 2 { let i = \"n\" & i; station i at 0, 0; }", `station 0,0 "n1"; station 0,0 "n2"`)
	expandAs(t, "let i = 2; for i = i to i + 1 { wall i, 0; } wall i, 9;", "wall 2,0; wall 3,0; wall 2,9")
	expandAs(t, "let n = 2; for i = 1 to n { let n = 9; wall i, n; } wall n, n;", "wall 1,9; wall 2,9; wall 2,2")
	expandAs(t, "let s = 0; for i = 1 to 3 { let s = s + i; wall s, 0; } wall s, 1;", "wall 1,0; wall 2,0; wall 3,0; wall 0,1")
	expandAs(t, "for i = 1 to 2 { if i == 2 { wall i, 0; } } for i = 1 to 2 { }", "wall 2,0")
	expandAs(t, "for i = 1 to 2 { } for i = 3 to 3 { wall i, i; }", "wall 3,3")
	for first := -3; first <= 3; first++ {
		for last := -3; last <= 3; last++ {
			want := make([]string, 0)
			for i := first; i <= last; i++ {
				want = append(want, fmt.Sprintf("wall %d,7", i))
			}
			expandAs(t, fmt.Sprintf("for i = %d to %d { wall i, 7; }", first, last), strings.Join(want, "; "))
			expandAs(t, fmt.Sprintf("macro m(int a, int b) { for a = a to b { wall a, 7; } } call m(%d, %d);", first, last), strings.Join(want, "; "))
		}
	}
}

func TestExpandConditions(t *testing.T) {
	expandAs(t, "if true { wall 1, 1; } wall 2, 2;", "wall 1,1; wall 2,2")
	expandAs(t, "if false { wall 1, 1; } wall 2, 2;", "wall 2,2")
	expandAs(t, "if true { wall 1, 1; } else { wall 2, 2; }", "wall 1,1")
	expandAs(t, "if false { wall 1, 1; } else { wall 2, 2; }", "wall 2,2")
	expandAs(t, "if false { } else { } if true { } else { wall 1, 1; }", "")
	for n := range 5 {
		want := fmt.Sprintf("wall %d,0", min(n, 3))
		expandAs(t, fmt.Sprintf("let n = %d; if n == 0 { wall 0, 0; } else if n == 1 { wall 1, 0; } else if n == 2 { wall 2, 0; } else { wall 3, 0; }", n), want)
		if n > 2 {
			want = ""
		}
		expandAs(t, fmt.Sprintf("let n = %d; if n == 0 { wall 0, 0; } else if n == 1 { wall 1, 0; } else if n == 2 { wall 2, 0; }", n), want)
	}
	expandAs(t, "if true { wall 1, 1; } else if true { wall 2, 2; } else { wall 3, 3; }", "wall 1,1")
	expandAs(t, "let a = 1; if true { let a = 2; wall a, 0; } wall a, 0;", "wall 2,0; wall 1,0")
	expandAs(t, "let a = 1; if false { let a = 2; } else { wall a, 0; let a = 3; wall a, 0; } wall a, 0;", "wall 1,0; wall 3,0; wall 1,0")
	expandAs(t, "let a = 1; if a == 1 { let a = a + 1; if a == 2 { let a = a + 1; wall a, 0; } wall a, 0; } wall a, 0;", "wall 3,0; wall 2,0; wall 1,0")
	expandAs(t, "let a = true; let b = a; if b { wall 1, 0; } let a = !b; if a { wall 2, 0; } else { wall 3, 0; }", "wall 1,0; wall 3,0")
}

func TestExpandCalls(t *testing.T) {
	expandAs(t, "call f(); macro f() { wall 1, 1; } call f();", "wall 1,1; wall 1,1")
	expandAs(t, "macro f() { } call f();", "")
	expandAs(t, "macro f(int a) { wall a, 0; } call f(1); call f(-2); call f(3 * 4);", "wall 1,0; wall -2,0; wall 12,0")
	expandAs(t, "macro f(int a, text b, int c) { station b at a, c; } call f(1, \"s\", 2); call f(2, \"\" & 7, 1);", `station 1,2 "s"; station 2,1 "7"`)
	expandAs(t, "macro f(int a, int b) { wall a, b; } let a = 1; let b = 2; call f(b, a); wall a, b;", "wall 2,1; wall 1,2")
	expandAs(t, "macro f(int a, int b) { wall a, b; if a < 3 { call f(b, a + b); } wall a, b; } call f(1, 1);", "wall 1,1; wall 1,2; wall 2,3; wall 3,5; wall 3,5; wall 2,3; wall 1,2; wall 1,1")
	expandAs(t, "macro f(int a) { let a = a + 1; call g(a); wall a, 0; } macro g(int a) { let a = a * 10; wall a, 0; } let a = 1; call f(a); wall a, 0;", "wall 20,0; wall 2,0; wall 1,0")
	expandAs(t, "macro f(int n) { let x = n; if n > 0 { call f(n - 1); } wall x, n; } call f(2);", "wall 0,0; wall 1,1; wall 2,2")
	expandAs(t, "macro f(int i) { for i = i to i + 1 { call g(i); } } macro g(int i) { wall i, i; } for i = 1 to 2 { call f(i * 10); }", "wall 10,10; wall 11,11; wall 20,20; wall 21,21")
	expandAs(t, "macro f(int f) { let f = f + f; wall f, f; } let f = 3; call f(f);", "wall 6,6")
	expandAs(t, "macro f(text s) { if s != \"xxx\" { call f(s & \"x\"); } station s at 0, 0; } call f(\"\");", `station 0,0 "xxx"; station 0,0 "xx"; station 0,0 "x"; station 0,0`)
	expandAs(t, "macro f(int p, int q, int r, int s, int t, int u, int v, int w, int x, text y) { wall p, q to r, s; wall t, u to v, w; station y at x, x; } call f(1, 2, 3, 4, 5, 6, 7, 8, 9, \"z\");",
		`wall 1,2 to 3,4; wall 5,6 to 7,8; station 9,9 "z"`)
	expandAs(t, "macro even(int n) { if n == 0 { wall 0, 0; } else { call odd(n - 1); } } macro odd(int n) { if n == 0 { wall 1, 1; } else { call even(n - 1); } } call even(5); call odd(5);", "wall 1,1; wall 0,0")
}

// atom is an expression for a number, from the least to the greatest there is.
func atom(n int) sprout {
	switch {
	case n < 0:
		return neg(atom(-n))
	case n <= impl.MaxNumber:
		return number(n)
	}
	return bin(impl.OpAdd, bin(impl.OpMul, number(n/1000), number(1000)), number(n%1000))
}

// probe is a program that shows what an expression comes to: a number, a text or a bool.
func probe(e sprout, typ byte) sprout {
	switch typ {
	case 'i':
		return program(kind(impl.NodeGrid, e, number(7)))
	case 't':
		return program(kind(impl.NodeStation, e, number(7), number(7)))
	}
	return program(kind(impl.NodeIf, e, block(kind(impl.NodeWall, number(1), number(7))), block(kind(impl.NodeWall, number(0), number(7)))))
}

// worthIs wants an expression to come to a value, or to a CodeValue at its own node if that is nil.
func worthIs(t *testing.T, e sprout, typ byte, worth any) {
	t.Helper()
	tree := probe(e, typ).flat()
	decls, code, node := impl.Expand(tree)
	if worth == nil {
		if code != impl.CodeValue || node != 2 || len(decls) != 0 {
			t.Errorf("%s: %s, %d at %d", impl.PrintTree(tree), listed(decls), code, node)
		}
		return
	}
	want := map[any]string{true: "wall 1,7", false: "wall 0,7"}[worth]
	switch w := worth.(type) {
	case *big.Int:
		want = "grid " + w.String() + ",7"
	case string:
		want = strings.TrimSuffix(fmt.Sprintf("station 7,7 %q", w), ` ""`)
	}
	if code != impl.CodeOK || node != 0 || listed(decls) != want {
		t.Errorf("%s: %s, %d at %d, not %s", impl.PrintTree(tree), listed(decls), code, node, want)
	}
}

func TestExpandNumbers(t *testing.T) {
	edge := []int{0, 1, 2, 3, 7, 10, 999, 1000, 1001, 99999, 100000, 499999, 500000, 500001, 999998, 999999, 1000000}
	for _, n := range edge[1:] {
		edge = append(edge, -n)
	}
	refused := map[int]int{}
	for op := impl.OpEq; op <= impl.OpMod; op++ {
		for _, x := range edge {
			for _, y := range edge {
				worth := wantWorth(op, big.NewInt(int64(x)), big.NewInt(int64(y)))
				worthIs(t, bin(op, atom(x), atom(y)), operatorGives[op], worth)
				if worth == nil {
					refused[op]++
				}
			}
		}
	}
	if refused[impl.OpAdd] < 50 || refused[impl.OpMul] < 50 || refused[impl.OpDiv] != len(edge) || refused[impl.OpMod] != len(edge) || refused[impl.OpCat] != 0 {
		t.Errorf("%v", refused)
	}
	for _, n := range edge {
		worthIs(t, neg(atom(n)), 'i', big.NewInt(int64(-n)))
		worthIs(t, neg(neg(atom(n))), 'i', big.NewInt(int64(n)))
	}
	for _, x := range []string{"7 / 2 = 3", "-7 / 2 = -3", "7 / -2 = -3", "-7 / -2 = 3", "7 % 2 = 1", "-7 % 2 = -1", "7 % -2 = 1", "-7 % -2 = -1", "1 / 2 = 0", "-1 / 2 = 0", "6 % 3 = 0", "-6 % 3 = 0", "0 / -5 = 0", "0 % -5 = 0", "2 % 5 = 2", "-2 % -5 = -2"} {
		src, want, _ := strings.Cut(x, " = ")
		expandAs(t, "wall "+src+", 0;", "wall "+want+",0")
		expandAs(t, "let x = "+src+"; if x * 1 == "+want+" { wall x, 0; }", "wall "+want+",0")
	}
}

func TestExpandNumbersOneBeyond(t *testing.T) {
	const most = "let m = 99999 * 10 + 10; let n = -m; "
	for _, e := range []string{"m + 0", "m - 0", "n + 0", "n - 0", "m * 1", "m * -1", "n * -1", "m / 1", "n / -1", "999 * 1001", "1000 * 1000", "-1000 * 1000", "m + n", "m - m", "m % n", "n % m", "-n", "-m", "m - 1 + 1"} {
		tree, _ := treeOf(t, most+"let x = "+e+"; grid x, 7;")
		if decls, code, _, _ := expandOf(t, e, tree); code != impl.CodeOK || len(decls) != 1 {
			t.Errorf("%s: %d", e, code)
		}
	}
	for _, e := range []string{"m ^+ 1", "m ^- -1", "n ^- 1", "n ^+ -1", "1 ^+ m", "-1 ^+ n", "n ^- m", "m ^- n", "m ^+ m", "m ^* 2", "2 ^* m", "m ^* -2", "m ^* m", "n ^* n", "n ^* m", "1001 ^* 1000", "-1001 ^* 1000",
		"m ^/ 0", "m ^% 0", "0 ^/ 0", "0 ^% 0", "1 ^/ (2 - 2)", "1 ^% -0", "m ^+ 1 - 1", "m ^* 2 / 2", "(m ^+ 1) * 0", "0 * (m ^+ 1)", "-(m ^+ 1)"} {
		for _, form := range []string{"let x = @;", "grid @, 7;", "grid 7, @;", "if @ == 0 { }", "if true { let x = @; }", "for i = @ to 0 { }", "for i = 0 to @ { }", "station \"\" & (@) at 0, 0;", "zone 0, 0 cost @;", "for i = 1 to 1 { wall i, @; }"} {
			stopAs(t, impl.CodeValue, most+strings.ReplaceAll(form, "@", e))
		}
	}
}

func TestExpandTexts(t *testing.T) {
	texts := []string{"", "a", "å", "-1", "0", strings.Repeat("x", 30), strings.Repeat("å", 15), strings.Repeat("x", 31), strings.Repeat("x", 53), strings.Repeat("x", 58), strings.Repeat("x", 59), strings.Repeat("x", 60), strings.Repeat("å", 30)}
	refused := 0
	for _, x := range texts {
		for _, y := range texts {
			worth := wantWorth(impl.OpCat, x, y)
			worthIs(t, bin(impl.OpCat, quoted(x), quoted(y)), 't', worth)
			worthIs(t, bin(impl.OpEq, quoted(x), quoted(y)), 'b', x == y)
			worthIs(t, bin(impl.OpNe, quoted(x), quoted(y)), 'b', x != y)
			if worth == nil {
				refused++
			}
		}
		for _, n := range []int{0, 1, -1, 9, 10, -10, 99999, -99999, 100000, 999999, 1000000, -1000000} {
			digits := strconv.Itoa(n)
			for _, c := range []struct {
				e    sprout
				want string
			}{{bin(impl.OpCat, quoted(x), atom(n)), x + digits}, {bin(impl.OpCat, atom(n), quoted(x)), digits + x}} {
				if len(c.want) > 60 {
					worthIs(t, c.e, 't', nil)
				} else {
					worthIs(t, c.e, 't', c.want)
				}
			}
		}
	}
	if refused < 20 {
		t.Errorf("%d refused", refused)
	}
	expandAs(t, "station 1 & 2 at 0, 0; station 1 & -2 & 0 at 0, 0; station -1 & \"\" & -0 at 0, 0; station 007 & \"\" at 0, 0;", `station 0,0 "12"; station 0,0 "1-20"; station 0,0 "-10"; station 0,0 "7"`)
	expandAs(t, "station \"a\" & 1 + 2 & \"b\" & 2 * 3 at 0, 0;", `station 0,0 "a3b6"`)
	expandAs(t, "if 1 & 2 == \"12\" { wall 1, 1; } if \"a\" == \"A\" { wall 2, 2; } if \"\" == \"\" & \"\" { wall 3, 3; }", "wall 1,1; wall 3,3")
	x59, x60 := strings.Repeat("x", 59), strings.Repeat("x", 60)
	expandAs(t, `station "`+x59+`" & 1 at 0, 0;`, `station 0,0 "`+x59+`1"`)
	expandAs(t, `station "`+x60+`" & "" at 0, 0;`, `station 0,0 "`+x60+`"`)
	stopAs(t, impl.CodeValue, `let a = "`+x59+`" ^& 10;`, `let a = "`+x60+`" ^& 0;`, `let a = "`+x59+`" ^& -1;`, `let a = "`+x60+`" ^& 1 & 2;`, `let a = ("" & "`+x59+`" & 1) ^& "x" & "x";`,
		`macro f(text s) { call f(s ^& s); } call f("x");`, `let a = "x" ^& ("`+x60+`" & "");`, `if "`+x60+`" ^& 1 == "" { }`, `station "`+x60+`" ^& 1 at 0, 0;`, `macro f(text s) { } call f(1 ^& "`+x60+`");`)
}

func TestExpandBools(t *testing.T) {
	truth := []sprout{pointed(impl.NodeBool, 0), pointed(impl.NodeBool, 1)}
	for op := impl.OpOr; op <= impl.OpNe; op++ {
		for x := range 2 {
			for y := range 2 {
				worthIs(t, bin(op, truth[x], truth[y]), 'b', wantWorth(op, x == 1, y == 1))
				worthIs(t, not(bin(op, truth[x], not(truth[y]))), 'b', wantWorth(op, x == 1, y == 0) == false)
			}
		}
	}
	const fault = "let z = 0; "
	expandAs(t, fault+"if true || 1 / z == 1 { wall 1, 1; } if false && 1 / z == 1 { wall 2, 2; } else { wall 3, 3; }", "wall 1,1; wall 3,3")
	expandAs(t, fault+"let a = false && 1 / z == 1 || true; let b = true || 1 / z == 1 && false; if a && b { wall 1, 1; }", "wall 1,1")
	expandAs(t, fault+"if (false || true) || 1 % z == 1 { wall 1, 1; } if !(true && false && 1 / z == 1) { wall 2, 2; }", "wall 1,1; wall 2,2")
	expandAs(t, fault+"let x = false && !(\""+strings.Repeat("x", 60)+"\" & 1 == \"\");", "")
	stopAs(t, impl.CodeValue, fault+"if true && 1 ^/ z == 1 { }", fault+"if false || 1 ^/ z == 1 { }", fault+"if 1 ^/ z == 1 || true { }", fault+"if 1 ^/ z == 1 && false { }",
		fault+"if false && true || 1 ^/ z == 1 { }", fault+"if (true || false) && 1 ^% z == 1 { }", fault+"if false == (1 ^/ z == 1) { }", fault+"if true != (1 ^/ z == 1) { }",
		fault+"let x = true && (true && (false || 1 ^/ z == 1));", fault+"if true && true { let x = 1 ^/ z; }")
}

// Of two faults the one that is worked out first is told: what stands on the left, what is below, an earlier expression.
func TestExpandOrderOfFaults(t *testing.T) {
	stopAs(t, impl.CodeValue, "let a = 1 ^/ 0 + 2 % 0;", "let a = 1 / 1 + 2 ^% 0;", "let a = (99999 ^* 99999) / 0;", "let a = 99999 * 10 / (1 ^/ 0);", "let a = 99999 ^* 99999 & 1 / 0;",
		"let a = 99999 ^* 11 * (1 / 0);", "let a = -(1 ^/ 0) * (1 / 0);", "let a = 1 ^/ 0 == 2 / 0;", "let a = 0 * (1 ^/ 0);", "let a = 0 / (1 ^% 0) / 0;", "let a = 1 ^/ 0; let b = 2 / 0;",
		"wall 1, 1; let a = 1 ^/ 0;", "if 1 ^/ 0 == 1 { let a = 2 / 0; } else { let a = 3 / 0; }", "if 1 == 1 { let a = 2 ^/ 0; } else { let a = 3 / 0; }", "if 1 == 2 { let a = 2 / 0; } else { let a = 3 ^/ 0; }",
		"if 1 == 2 { let a = 2 / 0; } else if 1 ^/ 0 == 1 { }", "for i = 1 ^/ 0 to 2 / 0 { let a = 3 / 0; }", "for i = 1 to 2 ^/ 0 { let a = 3 / 0; }", "for i = -1 to 1 { let a = 3 ^/ i; }",
		"for i = 2 to 1 { let a = 1 / 0; } let a = 2 ^/ 0;", "macro f() { let a = 1 ^/ 0; } let b = 2; call f(); let c = 1 / 0;", "macro f(int a, int b) { let c = 1 / 0; } call f(1 ^/ 0, 2 / 0);", "macro f(int a, int b) { let c = 1 / 0; } call f(1, 2 ^/ 0);",
		"macro f(int a) { wall 1, 1; wall a, 6 ^/ (a - 2); } for i = 0 to 3 { call f(i); }", "macro f() { call g(); let a = 1 / 0; } macro g() { let a = 2 ^/ 0; } call f();")
	forms := []string{"grid @, @;", "wall @, @;", "wall @, @ to @, @;", "open @, @ to @, @;", "lane @, @ to @, @ east;", "gate @, @ east;", "bar @, @ east;", "zone @, @ cost @;", "zone @, @ to @, @ cost @;",
		"station \"\" & (@) at @, @;", "charger \"\" & (@) at @, @;", "for i = @ to @ { let b = 1 / 0; }", "macro f(int p, int q, int r) { let b = 1 / 0; } call f(@, @, @);"}
	for _, form := range forms {
		holes := strings.Count(form, "@")
		for first := range holes {
			for second := first; second < holes; second++ {
				src := form
				for i := range holes {
					e := "1"
					if i == first {
						e = "1 ^/ 0"
					} else if i == second {
						e = "99999 * 99999"
					}
					src = strings.Replace(src, "@", e, 1)
				}
				stopAs(t, impl.CodeValue, src)
			}
		}
	}
}

// stepsOf wants a source to take so many steps, with a loop ahead of it that uses up the others: then it has no fault,
// and with one step less to go the last of its steps is refused, at the node that is marked.
func stepsOf(t *testing.T, steps int, marked string) {
	t.Helper()
	for _, spare := range []int{0, 1, 2, 10} {
		tree, _ := treeOf(t, fmt.Sprintf("for w = 1 to %d { } %s", 9999-steps-spare, strings.Replace(marked, "^", "", 1)))
		if _, code, _, made := expandOf(t, marked, tree); code != impl.CodeOK || made != 10000-spare {
			t.Errorf("%s: the test has it wrong, %d, %d steps", marked, code, made)
		}
	}
	stopAs(t, impl.CodeLimit, fmt.Sprintf("for w = 1 to %d { } %s", 10000-steps, marked))
}

func TestExpandSteps(t *testing.T) {
	stepsOf(t, 1, "^let a = 1;")
	stepsOf(t, 2, "let a = 1; ^let a = 1;")
	stepsOf(t, 1, "^grid 1, 1;")
	stepsOf(t, 3, "grid 1, 1; station \"a\" at 1, 1; ^lane 1, 1 to 2, 2 west;")
	stepsOf(t, 1, "macro f() { let a = 1; let b = 1; } ^let a = 1; macro g() { }")
	stepsOf(t, 1, "^if true { }")
	stepsOf(t, 1, "^if false { let a = 1; }")
	stepsOf(t, 2, "if true { ^let a = 1; }")
	stepsOf(t, 2, "if false { let a = 1; let a = 2; } else { ^let b = 1; }")
	stepsOf(t, 2, "if false { } else ^if true { }")
	stepsOf(t, 3, "if false { } else if false { } else ^if false { }")
	stepsOf(t, 4, "if false { } else if false { } else if true { ^let a = 1; } else { let a = 1; let a = 1; }")
	stepsOf(t, 4, "if false { } else if false { } else if false { } else { ^let a = 1; }")
	stepsOf(t, 1, "^for i = 2 to 1 { let a = 1; }")
	stepsOf(t, 2, "^for i = 1 to 1 { }")
	stepsOf(t, 8, "^for i = 1 to 7 { }")
	stepsOf(t, 3, "for i = 1 to 1 { ^let a = 1; }")
	stepsOf(t, 7, "for i = 1 to 3 { ^let a = 1; }")
	stepsOf(t, 7, "for i = 1 to 2 { ^for j = 1 to 1 { } }")
	stepsOf(t, 14, "for i = 1 to 3 { for j = i to 3 { } } ^grid 1, 1;")
	stepsOf(t, 16, "for i = 1 to 3 { for j = i to 2 { grid i, j; } ^let a = 1; }")
	stepsOf(t, 1, "macro f() { } ^call f();")
	stepsOf(t, 3, "macro f() { let a = 1; ^let a = 2; } call f();")
	stepsOf(t, 8, "macro f(int n) { ^if n > 0 { call f(n - 1); } } call f(3);")
	stepsOf(t, 4, "macro f() { call g(); } macro g() { call h(); } macro h() { ^let a = 1; } call f();")
	stepsOf(t, 7, "macro f() { } for i = 1 to 3 { ^call f(); }")
	stopAs(t, impl.CodeLimit, "^for i = 1 to 99999 * 10 { }", "^for i = 1 to 10000 { }", "for i = 1 to 9999 { } ^let a = 1;", "for i = 1 to 9999 { } ^for i = 1 to 2 { }", "for i = 1 to 9999 { } ^for i = 2 to 1 { }",
		"for i = 1 to 9999 { } ^if false { }", "for i = 1 to 9999 { } macro f() { } ^call f();", "for i = 1 to 5000 { ^wall i, i; }", "let a = 1; ^for i = 1 to 5000 { let b = 1; }",
		"for i = 1 to 99999 { ^for j = 1 to 99999 { } }", "for i = 1 to 99999 { ^if false { } }", "^for i = 1 to 99999 { if true { let a = 1; } }", "let a = 1; for i = 1 to 99999 { if true { ^let a = 1; } }",
		"macro f() { for i = 1 to 100 { ^let a = 1; } } for i = 1 to 99 { call f(); }", "macro f(int n) { if n > 0 { ^call f(n - 1); call f(n - 1); } } call f(14);")
}

func TestExpandCallsWithinCalls(t *testing.T) {
	const down = "macro f(int n) { if n > 1 { ^call f(n - 1); } } "
	for n := range 33 {
		expandAs(t, strings.Replace(down, "^", "", 1)+fmt.Sprintf("call f(%d);", n), "")
	}
	for _, n := range []int{33, 34, 99999} {
		stopAs(t, impl.CodeLimit, down+fmt.Sprintf("call f(%d);", n))
	}
	expandAs(t, strings.Replace(down, "^", "", 1)+"for i = 1 to 50 { call f(32); call f(32); } if true { call f(32); }", "")
	stopAs(t, impl.CodeLimit, down+"for i = 30 to 40 { call f(i); wall i, i; }", "macro f() { ^call f(); } call f();", "macro f() { call g(); } macro g() { ^call f(); } call f();", "macro f() { ^call g(); } macro g() { call f(); } call g();",
		"macro f(int n) { if n == 32 { ^call g(); } else { call f(n + 1); } } macro g() { } call f(1);", "macro f() { for i = 1 to 2 { if true { ^call f(); } } } if true { call f(); }",
		"macro f(int n) { if n < 32 { call f(n + 1); } ^call g(n); } macro g(int n) { wall n, n; } call f(1);")
	expandAs(t, "macro f(int n) { if n < 31 { call f(n + 1); } if n > 29 { call g(n); } } macro g(int n) { wall n, n; } call f(1);", "wall 31,31; wall 30,30")
	expandAs(t, "macro f(int n) { if n < 31 { call f(n + 1); } else { call g(); call g(); } } macro g() { wall 1, 1; } call f(1);", "wall 1,1; wall 1,1")
}

func TestExpandManyDeclarations(t *testing.T) {
	fifty := func(s string) string { return strings.Repeat(s, 50) }
	for _, s := range []string{"grid 1, 1;", "wall 1, 1;", "open 1, 1;", "lane 1, 1 west;", "gate 1, 1 east;", "bar 1, 1 east;", "zone 1, 1 cost 1;", "station \"\" at 1, 1;", "charger \"\" at 1, 1;"} {
		tree, _ := treeOf(t, "for i = 1 to 180 { "+fifty(s)+" }")
		if decls, code, node, steps := expandOf(t, s, tree); code != impl.CodeOK || node != 0 || len(decls) != 9000 || steps != 9181 {
			t.Errorf("%s: %d, %d at %d", s, len(decls), code, node)
		}
		stopAs(t, impl.CodeLimit, "for i = 1 to 180 { "+fifty(s)+" } ^"+s, "wall 1, 1; for i = 1 to 180 { "+fifty(s)[len(s):]+" ^"+s+" }", "for i = 1 to 181 { ^"+fifty(s)+" }")
		tree, _ = treeOf(t, "for i = 1 to 180 { "+fifty(s)+" } let a = 1; if a == 1 { let b = a; } for i = 1 to 10 { }")
		if decls, code, _, _ := expandOf(t, s, tree); code != impl.CodeOK || len(decls) != 9000 {
			t.Errorf("%s: %d, %d", s, len(decls), code)
		}
	}
}

// Where two bounds are met at once: a step is counted first, then expressions are worked out, then the rest is looked at.
func TestExpandLimitsAtOnce(t *testing.T) {
	full := "for i = 1 to 180 { " + strings.Repeat("wall 1, 1;", 50) + " } "
	stopAs(t, impl.CodeValue, full+"wall 1 ^/ 0, 1;", full+"station \""+strings.Repeat("x", 60)+"\" ^& 1 at 1, 1;", full+"let a = 1 ^/ 0;", full+"for i = 1 to 817 { } wall 1, 1 ^/ 0;",
		"macro f(int n) { call f(1 ^/ (n - 32) * 0 + n + 1); } call f(1);", "macro f(int n) { if n == 32 { call f(1 ^/ 0); } call f(n + 1); } call f(1);",
		"for i = 1 to 9998 { } let a = 1 ^/ 0;", "for i = 1 to 9998 { } for i = 1 ^/ 0 to 1 { }", "for i = 1 to 9998 { } if 1 ^/ 0 == 1 { }", "macro f(int n) { } for i = 1 to 9998 { } call f(1 ^/ 0);")
	stopAs(t, impl.CodeLimit, "for i = 1 to 9999 { } ^let a = 1 / 0;", "for i = 1 to 9999 { } ^for i = 1 / 0 to 1 { }", "for i = 1 to 9999 { } ^if 1 / 0 == 1 { }", "macro f(int n) { } for i = 1 to 9999 { } ^call f(1 / 0);", "for i = 1 to 9999 { } ^wall 1 / 0, 1;",
		full+"for i = 1 to 817 { } ^wall 1, 1;", full+"for i = 1 to 818 { } ^wall 1, 1;", full+"for i = 1 to 818 { } ^wall 1 / 0, 1;", full+"^wall 1, 1; let a = 1 / 0;", full+"^for i = 1 to 819 { }", full+"for i = 1 to 818 { } ^let a = 1;",
		"for i = 1 to 9999 { ^if i == 5000 { let a = 1 / 0; } }",
		"macro f(int n) { if n == 1 { for i = 1 to 9935 { } } ^call f(n - 1); } call f(32);", "macro f(int n) { if n == 1 { for i = 1 to 9934 { } } ^call f(n - 1); } call f(32);",
		"macro f(int n) { ^call f(n); } call f(1); wall 1 / 0, 1;")
}

// Programs that mean something: Expand answers what putting values in for names comes to.
func TestExpandOfPrograms(t *testing.T) {
	met := map[int]int{}
	declared := 0
	for seed := range int64(2000) {
		tree := newAuthor(40000+seed, []int{0, 0, 400}[seed%3]).program().flat()
		decls, code, _, _ := expandOf(t, string(impl.PrintTree(tree)), tree)
		if t.Failed() {
			return
		}
		met[code]++
		declared += len(decls)
		straight(t, tree, decls)
	}
	if met[impl.CodeOK] < 700 || met[impl.CodeValue] < 300 || met[impl.CodeLimit] < 100 || declared < 10000 {
		t.Errorf("%v, %d declarations", met, declared)
	}
}

// straight wants a program of declarations alone, with the values of others put in, to mean the same as the others.
func straight(t *testing.T, tree []impl.Node, decls []impl.Decl) {
	t.Helper()
	p := program()
	for _, d := range decls {
		s := pointed(d.Kind, d.Dir, atom(d.X1), atom(d.Y1))
		if tree[d.Node].Count > 3 {
			s.kids = append(s.kids, atom(d.X2), atom(d.Y2))
		}
		switch d.Kind {
		case impl.NodeZone:
			s.kids = append(s.kids, atom(d.Cost))
		case impl.NodeStation, impl.NodeCharger:
			s.kids = append([]sprout{quoted(string(d.Name))}, s.kids...)
		}
		p.kids = append(p.kids, s)
	}
	if len(p.flat()) > impl.MaxNodes {
		return
	}
	got, code, node := impl.Expand(p.flat())
	if code != impl.CodeOK || node != 0 || listed(got) != listed(decls) {
		t.Errorf("%s: %s, %d at %d, not %s", impl.PrintTree(tree), listed(got), code, node, listed(decls))
	}
}

// What a loop, a call or a condition stands for may be written out instead.
func TestExpandOfProgramsWrittenOut(t *testing.T) {
	tried := 0
	for seed := range int64(1500) {
		p := newAuthor(90000+seed, 0).program()
		out := writtenOut(p)
		first, code, _ := impl.Expand(p.flat())
		if len(out.flat()) > impl.MaxNodes || out.deep() > impl.MaxDeep || code != impl.CodeOK {
			continue
		}
		second, code, node := impl.Expand(out.flat())
		if code != impl.CodeOK || listed(first) != listed(second) {
			t.Fatalf("%s\n%s\n%d at %d\n%s\n%s", impl.PrintTree(p.flat()), impl.PrintTree(out.flat()), code, node, listed(first), listed(second))
		}
		if len(first) > 0 && len(out.flat()) != len(p.flat()) {
			tried++
		}
	}
	if tried < 200 {
		t.Errorf("only %d tried", tried)
	}
}

// writtenOut has a block for each time of a loop with known bounds, and for a call of a macro without calls.
func writtenOut(s sprout) sprout {
	macros := map[string]sprout{}
	for _, k := range s.kids {
		calls := slices.ContainsFunc(k.flat(), func(n impl.Node) bool { return n.Kind == impl.NodeCall })
		if k.node.Kind == impl.NodeMacro && !calls {
			macros[string(k.node.Names[0])] = k
		}
	}
	return writeOut(s, macros)
}

func writeOut(s sprout, macros map[string]sprout) sprout {
	yes := pointed(impl.NodeBool, 1)
	out := sprout{s.node, nil}
	for _, k := range s.kids {
		k = writeOut(k, macros)
		switch {
		case isShort(k):
			for i := k.kids[0].node.N; i <= k.kids[1].node.N; i++ {
				time := append([]sprout{let(string(k.node.Names[0]), number(i))}, k.kids[2].kids...)
				out.kids = append(out.kids, kind(impl.NodeIf, yes, block(time...)))
			}
		case k.node.Kind == impl.NodeCall && len(macros[string(k.node.Names[0])].kids) > 0:
			out.kids = append(out.kids, kind(impl.NodeIf, yes, block(bodyOf(macros[string(k.node.Names[0])], k.kids)...)))
		default:
			out.kids = append(out.kids, k)
		}
	}
	return out
}

// isShort tells whether a node is a loop with known bounds that are not far from each other.
func isShort(s sprout) bool {
	return s.node.Kind == impl.NodeFor && s.kids[0].node.Kind == impl.NodeInt && s.kids[1].node.Kind == impl.NodeInt &&
		s.kids[1].node.N-s.kids[0].node.N < 5
}

// bodyOf is the block of a macro with its arguments bound; by other names first, as they may use the parameters' names.
func bodyOf(f sprout, args []sprout) []sprout {
	var first, second []sprout
	for i, arg := range args {
		name := string(f.node.Names[i+1])
		first = append(first, let("arg_"+name, arg))
		second = append(second, let(name, variable("arg_"+name)))
	}
	return slices.Concat(first, second, f.kids[0].kids)
}

func TestExpandOfTreesThatAreNotValid(t *testing.T) {
	for seed := range int64(400) {
		w := newAuthor(70000+seed, 0)
		whole := w.program().flat()
		for range 10 {
			tree := slices.Clone(whole)
			i, j := w.r.Intn(len(tree)), w.r.Intn(len(tree))
			switch w.r.Intn(5) {
			case 0:
				tree[i].Kind = w.r.Intn(24)
			case 1:
				tree[i].Count += w.r.Intn(3) - 1
			case 2:
				tree[i].N = w.r.Intn(20) - 1
			case 3:
				tree[i], tree[j] = tree[j], tree[i]
			case 4:
				tree[i].Names = tree[j].Names
			}
			expandOf(t, fmt.Sprint(tree), tree)
			if t.Failed() {
				return
			}
		}
	}
}

// The most that a tree within the bounds can ask for.
func TestExpandOfGreatTrees(t *testing.T) {
	wide := func(leaf sprout, op, n int) sprout {
		row := make([]sprout, n)
		for i := range row {
			row[i] = leaf
		}
		for len(row) > 1 {
			var half []sprout
			for i := 0; i+1 < len(row); i += 2 {
				half = append(half, bin(op, row[i], row[i+1]))
			}
			row = append(half, row[len(row)/2*2:]...)
		}
		return row[0]
	}
	p := program(let("x", number(7)), named(impl.NodeFor, "i", number(1), number(4998), block(let("y", wide(variable("x"), impl.OpAdd, 1995)))), kind(impl.NodeGrid, variable("x"), number(1)))
	if decls, code, node := impl.Expand(p.flat()); code != impl.CodeOK || node != 0 || listed(decls) != "grid 7,1" {
		t.Errorf("%s, %d at %d", listed(decls), code, node)
	}
	p.kids[1].kids[2] = block(let("y", wide(quoted(""), impl.OpCat, 1995)))
	if decls, code, node := impl.Expand(p.flat()); code != impl.CodeOK || node != 0 || listed(decls) != "grid 7,1" {
		t.Errorf("%s, %d at %d", listed(decls), code, node)
	}
	nest := block(kind(impl.NodeGrid, variable("i"), number(1)))
	for range 27 {
		nest = block(named(impl.NodeFor, "i", number(2), number(3), nest))
	}
	if decls, code, _ := impl.Expand(program(kind(impl.NodeIf, pointed(impl.NodeBool, 1), nest)).flat()); code != impl.CodeLimit || len(decls) != 0 {
		t.Errorf("%d declarations, %d", len(decls), code)
	}
}

func declExtents(decls []impl.Decl) []extent {
	all := []extent{extentOf(decls)}
	for _, d := range decls {
		all = append(all, extentOf(d.Name))
	}
	return all
}

func TestExpandIsNewMemory(t *testing.T) {
	src := `macro m(int a, text bb) { let x = bb; station x at a, a; station bb at a, a; charger bb & "" at a, a; } let s = "name"; for i = 1 to 2 { call m(i, "b"); station "lit" at 1, 1; station s at 1, 1; charger s at 1, 1; station "" at 1, 1; } lane 1, 1 to 2, 2 west;`
	tree, _ := treeOf(t, src)
	n := len(tree)
	tree = append(tree, let("behind", number(2)).flat()...)
	for i := range tree {
		tree[i].Text = append(slices.Clone(tree[i].Text), "behind"...)[:len(tree[i].Text)]
		tree[i].Types = append(slices.Clone(tree[i].Types), 7, 8)[:len(tree[i].Types)]
		tree[i].Names = append(slices.Clone(tree[i].Names), names("behind")...)[:len(tree[i].Names)]
		for j, name := range tree[i].Names {
			tree[i].Names[j] = append(slices.Clone(name), "behind"...)[:len(name)]
		}
	}
	before := deepCopy(tree)
	if code, node := impl.Check(tree[:n]); code != impl.CodeOK || node != 0 {
		t.Fatalf("%d at %d", code, node)
	}
	first, code, _ := impl.Expand(tree[:n])
	second, _, _ := impl.Expand(tree[:n])
	if code != impl.CodeOK || len(first) != 15 || !sameDecls(first, second) || !sameTree(tree, before) {
		t.Fatalf("%d, %s", code, listed(first))
	}
	for i := range tree {
		types, text, list := tree[i].Types, tree[i].Text, tree[i].Names
		if types = types[:len(types)+2]; types[len(types)-1] != 8 || string(text[len(text):len(text)+6]) != "behind" || string(list[:len(list)+1][len(list)]) != "behind" {
			t.Errorf("node %d is written into", i)
		}
		for _, name := range list {
			if string(name[len(name):len(name)+6]) != "behind" {
				t.Errorf("a name of node %d is written into", i)
			}
		}
	}
	shareNone(t, "Expand", slices.Concat(treeExtents(tree), declExtents(first), declExtents(second)))
	want := listed(first)
	for i := range first {
		clear(first[i].Name)
	}
	clear(first)
	for i := range tree {
		clear(tree[i].Text)
		for _, name := range tree[i].Names {
			clear(name)
		}
	}
	if listed(second) != want {
		t.Errorf("the answer hangs on the tree or on another answer")
	}
	if third, code, _ := impl.Expand(before[:n]); code != impl.CodeOK || listed(third) != want {
		t.Errorf("an earlier call has left something behind")
	}
}

func deepCopy(tree []impl.Node) []impl.Node {
	out := slices.Clone(tree)
	for i, n := range out {
		out[i].Text = slices.Clone(n.Text)
		out[i].Types = slices.Clone(n.Types)
		out[i].Names = nil
		for _, name := range n.Names {
			out[i].Names = append(out[i].Names, slices.Clone(name))
		}
	}
	return out
}

// A call that refuses leaves nothing behind for the next one.
func TestExpandKeepsNothing(t *testing.T) {
	fine, _ := treeOf(t, "macro f(int n) { wall n, n; if n > 1 { call f(n - 1); } } call f(32); for i = 1 to 5000 { }")
	want, code, _ := impl.Expand(fine)
	if code != impl.CodeOK || len(want) != 32 {
		t.Fatalf("%d, %d", code, len(want))
	}
	for _, src := range []string{"let n = 1; for i = 1 to 99999 { wall i, n; }", "macro f() { call f(); } call f();", "let i = 1 / 0;", "let i = n;", "let n = true; wall n, n;", "macro f(int n) { wall 1, 1; } macro f(int i) { }"} {
		bad, _ := treeOf(t, src)
		if decls, code, _ := impl.Expand(bad); code == impl.CodeOK || len(decls) != 0 {
			t.Errorf("%s: %d, %d", src, code, len(decls))
		}
		if got, code, node := impl.Expand(fine); code != impl.CodeOK || node != 0 || !sameDecls(got, want) {
			t.Errorf("behind %s: %d at %d, %s", src, code, node, listed(got))
		}
	}
}
