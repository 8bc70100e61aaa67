package tests

import (
	"fmt"
	"strings"
	"testing"

	"loop.example/s02126/impl"
)

// limitAs wants a source that meets a limit to be compiled, and one that breaks it to have a fault at the mark.
func limitAs(t *testing.T, meets string, code int, breaks ...string) {
	t.Helper()
	surveyFine(t, meets)
	if image, code, _, _ := impl.Compile([]byte(meets)); code != impl.CodeOK || len(image) == 0 {
		t.Errorf("%s: %d, %d bytes", sourceText(meets), code, len(image))
	}
	surveyAs(t, code, breaks...)
}

func TestLimitsOfTexts(t *testing.T) {
	rep := strings.Repeat
	// MaxSource
	limitAs(t, "grid 2, 2;"+rep(" ", 4990), impl.CodeSize, "grid 2, 2;"+rep(" ", 4990)+"^ ")
	limitAs(t, rep("\n", 4990)+"grid 2, 2;", impl.CodeSize, rep("\n", 4991)+"grid 2, 2^;")
	limitAs(t, "grid 2, 2; //"+rep("å", 2493)+".", impl.CodeSize, "grid 2, 2; //"+rep("å", 2493)+".^.", "grid 2, 2; //"+rep("å", 2493)+".^å")
	// MaxNumber
	limitAs(t, "grid 99999 / 99999, 99999 - 99998;", impl.CodeLex, "grid ^100000 / 99999, 1;", "grid 99999 / ^100000, 1;", "grid 2, 2; let a =\n ^99999999999999999999;")
	limitAs(t, "grid 2, 00000000000000000002; let a = 00099999;", impl.CodeLex, "grid 2, 2; let a = ^000100000;")
	// MaxText, of a text that is written and of one that comes out
	for _, text := range []string{rep("t", 60), rep("å", 30), rep("€", 20), rep("😀", 15), rep("\\u{41}", 60), rep("\\\"", 60)} {
		limitAs(t, "grid 2, 2; station \""+text+"\" at 0, 0;", impl.CodeSize, "^grid 2, 2; station \""+text+"t\" at 0, 0;", "^\n\n let a = \"t"+text+"\";")
		limitAs(t, "grid 2, 2; station \""+text+"\" & \"\" at 0, 0;", impl.CodeValue, "grid 2, 2; station \""+text+"\" ^& \"t\" at 0, 0;", "grid 2, 2; let a = \"\" & \"\" &\n\"t\" ^& \""+text+"\";", "grid 2, 2; let a = \""+text+"\" ^& 0;")
	}
	limitAs(t, "grid 2, 2; charger \""+rep("t", 54)+"\" & -99999 at 0, 0;", impl.CodeValue, "grid 2, 2; charger \""+rep("t", 55)+"\" ^& -99999 at 0, 0;")
	// MaxIdent
	name := rep("n", 30)
	limitAs(t, fmt.Sprintf("grid 2, 2; let %s = 1; macro %s(int %s) { wall %s, 0; } call %s(%s); for %s = 0 to 0 { }", name, name, name, name, name, name, name), impl.CodeSize,
		"^grid 2, 2; let "+name+"n = 1;", "^grid 2, 2; macro "+name+"n() { }", "^grid 2, 2; macro f(int "+name+"n) { }", "^grid 2, 2; for "+name+"n = 0 to 0 { }", "^grid 2, 2; let a = "+name+"n;", "^grid 2, 2; call "+name+"n();")
}

// nodesIn is a source of n nodes that is compiled, as far as it is not too large.
func nodesIn(n int) string {
	src := "grid 1,1;"
	for left := n - 4; left > 0; {
		sums := min(50, (left-2)/2)
		if left > 102 && left < 106 {
			sums = 40
		}
		odd := ""
		if left == 2*sums+3 {
			odd = "-"
		}
		src += "let a=" + odd + "1" + strings.Repeat("+1", sums) + ";"
		left -= 2*sums + 2 + len(odd)
	}
	return src
}

func TestLimitsOfTrees(t *testing.T) {
	rep := strings.Repeat
	// MaxNodes
	for n := 3990; n <= 4010; n++ {
		tree, _, _, _ := impl.Parse([]byte(nodesIn(n)))
		if n <= 4000 {
			if len(tree) != n {
				t.Errorf("%d nodes, not %d", len(tree), n)
			}
			surveyFine(t, nodesIn(n))
		} else {
			surveyAs(t, impl.CodeSize, "^"+nodesIn(n))
		}
	}
	limitAs(t, nodesIn(4000), impl.CodeSize, "^"+nodesIn(4001), "^\n\n"+nodesIn(4001))
	// MaxDeep
	limitAs(t, "grid 2, 2; let a = "+rep("-", 57)+"1;", impl.CodeSize, "^grid 2, 2; let a = "+rep("-", 58)+"1;")
	limitAs(t, "grid 2, 2; let a = 1"+rep(" + 1", 57)+";", impl.CodeSize, "^grid 2, 2; let a = 1"+rep(" + 1", 58)+";")
	limitAs(t, rep("if true { ", 28)+"grid 3 - 1, 2; "+rep("}", 28), impl.CodeSize, "^"+rep("if true { ", 29)+"grid 1, 2; "+rep("}", 29), "^"+rep("if true { ", 28)+"grid 3 - -1, 2; "+rep("}", 28))
	limitAs(t, "grid 2, 2;"+rep("if false { } else ", 57)+"if true { }", impl.CodeSize, "^grid 2, 2;"+rep("if false { } else ", 58)+"if true { }")
	limitAs(t, "grid 2, 2; macro f() { let a = "+rep("-", 55)+"1; } call f();", impl.CodeSize, "^grid 2, 2; macro f() { let a = "+rep("-", 56)+"1; } call f();")
	// MaxArgs
	params := func(n int) string {
		var all []string
		for i := range n {
			all = append(all, fmt.Sprint("int p", i))
		}
		return strings.Join(all, ", ")
	}
	limitAs(t, "grid 9, 9; macro f("+params(10)+") { wall p0, p9; } call f(1, 2, 3, 4, 5, 6, 7, 8, 8, 8);", impl.CodeSize,
		"^grid 9, 9; macro f("+params(11)+") { wall p0, p9; }", "^grid 9, 9; macro f("+params(10)+") { } call f(1, 2, 3, 4, 5, 6, 7, 8, 8, 8, 8);")
}

func TestLimitsOfRuns(t *testing.T) {
	// MaxSteps: one for the grid, one for the loop, one for each time
	limitAs(t, "grid 2, 2; for i = 1 to 9998 { }", impl.CodeLimit, "grid 2, 2;\n^for i = 1 to 9999 { }", "grid 2, 2; for i = 1 to 9998 { }\n ^let a = 1;", "grid 2, 2; for i = 1 to 9998 { } ^if false { }", "grid 2, 2; for i = 1 to 9998 { } ^wall 0, 0;")
	limitAs(t, "grid 2, 2; for i = 1 to 4999 { let a = 1; }", impl.CodeLimit, "grid 2, 2; let b = 1; for i = 1 to 4999 { ^let a = 1; }", "grid 2, 2; ^for i = 1 to 5000 { let a = 1; }")
	limitAs(t, "macro f() { for i = 1 to 97 { } } grid 2, 2; let a = 0; for i = 1 to 99 { call f(); } for i = 1 to 96 { }", impl.CodeLimit,
		"macro f() { for i = 1 to 97 { } } grid 2, 2; let a = 0; for i = 1 to 99 { call f(); } ^for i = 1 to 97 { }", "macro f() { ^for i = 1 to 97 { } } grid 2, 2; let a = 0; for i = 1 to 99 { call f(); } for i = 1 to 95 { } call f();")
	// MaxCalls
	limitAs(t, "macro f(int n) { if n > 1 { call f(n - 1); } else { wall 0, 0; } } grid 2, 2; call f(32); call f(32);", impl.CodeLimit,
		"macro f(int n) { if n > 1 { ^call f(n - 1); } else { wall 0, 0; } } grid 2, 2; call f(33);", "macro f(int n) {\n if n > 1 { call f(n - 1); } ^call g();\n} macro g() { } grid 2, 2; call f(32);")
	// MaxDecls
	opens := strings.Repeat("open 0, 0;", 50)
	most := "grid 2, 2; for i = 1 to 179 { " + opens + " } " + opens[:490]
	limitAs(t, most, impl.CodeLimit, most+"\n^open 0, 0;", most+"\n^station \"a\" at 1, 1;", "open 0, 0; grid 2, 2; for i = 1 to 179 { "+opens+" } "+opens[:480]+"^"+opens[:10])
	limitAs(t, most+" let a = 1; for i = 1 to 99 { }", impl.CodeLimit, most+" let a = 1; for i = 1 to 99 { if i > 7 { ^open 1, 1; } }")
	// MaxValue
	limitAs(t, "grid 1000 * 1000 / (500 * 1000), 2; let a = 99999 * 10 + 10; let b = -a; let c = -1000 * 1000;", impl.CodeValue,
		"grid 2, 2; let a = 99999 * 10 ^+ 11;", "grid 2, 2; let a = -1000 * 1000\n^- 1;", "grid 2, 2; let a = 1001 ^* 1000;", "grid 2, 2; let a = -1000 * 1000; let b = 0 - a ^+ 1;", "grid 2, 2; let a = 1000 * 1000; let b = a; let c = b ^- -1;")
	limitAs(t, "grid 2, 2; for i = 1000 * 1000 to 1000 * 1000 { let a = i; } for i = -1000 * 1000 to -999 * 1001 - 1 { }", impl.CodeValue, "grid 2, 2; for i = 1 to 1000 * 1000 ^+ 1 { }", "grid 2, 2; for i = -1000 * 1000 ^- 1 to 1 { }")
	// values as great as they can be are no cells
	surveyAs(t, impl.CodeValue, "grid 2, 2; ^wall 1000 * 1000, 0;", "grid 2, 2; ^lane 0, 0 to -1000 * 1000, 1000 * 1000 east;", "grid 2, 2; ^zone 0, 0 cost 1000 * 1000;", "^grid 1000 * 1000, 1000 * 1000;", "grid 2, 2; ^station \"a\" at -1000 * 1000, 0;")
}

func TestLimitsOfLayouts(t *testing.T) {
	// MaxSide
	limitAs(t, "grid 40, 40;", impl.CodeValue, "^grid 41, 40;", "^grid 40, 41;", " ^grid 41, 41;", "^grid 41, 1;", "^grid 1, 41;")
	limitAs(t, "grid 1, 1;", impl.CodeValue, "^grid 0, 1;", "^grid 1, 0;", "^grid -1, 1;")
	limitAs(t, "grid 40, 40; wall 39, 39; open 0, 0 to 39, 39; bar 39, 0 south;", impl.CodeValue, "grid 40, 40; ^wall 40, 39;", "grid 40, 40; ^wall 39, 40;", "grid 40, 40; ^open 0, 0 to 40, 39;", "grid 40, 40; ^bar -1, 0 south;")
	// MaxCost
	limitAs(t, "grid 2, 2; zone 0, 0 cost 9; zone 1, 1 cost 1;", impl.CodeValue, "grid 2, 2; ^zone 0, 0 cost 10;", "grid 2, 2; ^zone 0, 0 to 1, 1 cost 0;", "grid 2, 2; zone 0, 0 cost 9; ^zone 0, 0 cost -1;")
	// MaxTargets
	limitAs(t, "grid 31, 1; for i = 1 to 30 { station \"s\" & i at i, 0; }", impl.CodeLimit, "grid 31, 1; for i = 1 to 30 { station \"s\" & i at i, 0; }\n^charger \"c\" at 0, 0;", "grid 31, 1; charger \"c\" at 0, 0; for i = 1 to 30 {\n^station \"s\" & i at i, 0; }")
	// the greatest distances that a source can come to: a way that turns at each wall, through cells of the greatest cost
	snake := "grid 40, 40; zone 0, 0 to 39, 39 cost 9; for i = 0 to 18 { wall 0, 2 * i + 1 to 39, 2 * i + 1; open 39 * ((i + 1) % 2), 2 * i + 1; } station \"a\" at 0, 0; charger \"b\" at 0, 38;"
	l := surveyFine(t, snake)[0]
	x, _ := impl.BuildTables(l)
	if got := x.Dist[0][l.Targets[1].Cell]; got != 9*(20*39+19*2) || got > impl.MaxDist {
		t.Errorf("a way of length %d", got)
	}
	// MaxEdges is more than any grid has
	g, _ := impl.BuildGraph(surveyFine(t, "grid 40, 40;")[0])
	if len(g.To) != 4*39*40 || len(g.To) > impl.MaxEdges {
		t.Errorf("%d edges", len(g.To))
	}
}
