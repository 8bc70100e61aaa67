package tests

import (
	"fmt"
	"strings"
	"testing"

	"loop.example/s02126/impl"
)

const exampleSource = "grid 4, 3;\nmacro shelf(int x) { wall x, 0 to x, 1; }\ncall shelf(1);\nlane 0, 2 to 3, 2 east;\nstation \"A\" & 1 at 3, 0;\n"

func TestSurveyOfTheExample(t *testing.T) {
	l := surveyFine(t, exampleSource)[0]
	want := impl.Layout{W: 4, H: 3, Cost: []int{1, 0, 1, 1, 1, 0, 1, 1, 1, 1, 1, 1}, Exits: []int{4, 0, 6, 12, 5, 0, 7, 13, 2, 2, 2, 0}, Targets: []impl.Target{target("A1", impl.KindStation, 3)}}
	if !sameLayout(l, want) {
		t.Errorf("the test has it wrong: %v", l)
	}
	got, code, line, col := impl.Survey([]byte(exampleSource))
	if code != impl.CodeOK || line != 0 || col != 0 || !sameLayout(got, want) {
		t.Errorf("%v, %d at %d, %d", got, code, line, col)
	}
	if shown := string(impl.ShowLayout(got)); shown != ".#.S\n.#..\n....\nstation \"A1\" 3 0\n" {
		t.Errorf("%s", shown)
	}
}

// The places of some faults as numbers: the other tests take them from marks.
func TestSurveyLinesAndColumns(t *testing.T) {
	for src, want := range map[string]verdict{
		"":                               {impl.CodeValue, 1, 1},
		"\n\n\n":                         {impl.CodeValue, 1, 1},
		"@":                              {impl.CodeLex, 1, 1},
		"grid 2, 2;\n\n  @":              {impl.CodeLex, 3, 3},
		"grid 2, 2; /* å€😀 */ @":         {impl.CodeLex, 1, 22},
		"grid 2, 2;\n// å€😀\xf0\x9f\x98": {impl.CodeLex, 2, 7},
		"grid":                           {impl.CodeParse, 1, 5},
		"grid\n":                         {impl.CodeParse, 2, 1},
		"grid\n\n ":                      {impl.CodeParse, 3, 2},
		"grid 2, 2;\r\n\tgrid;":          {impl.CodeParse, 2, 6},
		"station \"å€😀\" 1, 1;":          {impl.CodeParse, 1, 15},
		strings.Repeat("\n", 5001):       {impl.CodeSize, 5001, 1},
		strings.Repeat("å", 2501):        {impl.CodeSize, 1, 2501},
		" " + strings.Repeat("å", 2500):  {impl.CodeSize, 1, 2501},
		strings.Repeat("\xff", 5001):     {impl.CodeSize, 1, 5001},
		strings.Repeat("\n\n ", 2000):    {impl.CodeSize, 3335, 1},
		"\n\nlet " + strings.Repeat("a", 31) + " = 1;":          {impl.CodeSize, 1, 1},
		"grid 2, 2;\nlet a =\n  \"å\" & b;":                     {impl.CodeName, 3, 9},
		"grid 2, 2;\nlet a = \"€\" &\n\ttrue;":                  {impl.CodeType, 2, 13},
		"grid 2, 2;\nmacro f() {\n  call f();\n}\ncall f();":    {impl.CodeLimit, 3, 3},
		"grid 2, 2;\nlet a = \"😀\" & 1\n % 0;":                  {impl.CodeValue, 3, 2},
		"grid 2, 2;\nfor i = 0 to 3 {\n  /* é */ wall i, 0;\n}": {impl.CodeValue, 3, 11},
	} {
		if _, told := surveyOf(t, src); told != want {
			t.Errorf("%s: the test has it wrong, %v, not %v", sourceText(src), told, want)
		}
		if _, code, line, col := impl.Survey([]byte(src)); (verdict{code, line, col}) != want {
			t.Errorf("%s: %d at %d, %d, not %v", sourceText(src), code, line, col, want)
		}
	}
}

func TestSurveyOfLexFaults(t *testing.T) {
	surveyAs(t, impl.CodeLex,
		"^@", "grid 2, 2; ^@", "grid 2, 2;^@", "grid 2, 2;\n^@", "grid 2, 2;\n\n\n   ^@ @", "grid 2, 2;\r\n\t ^#", "\r\r^#",
		"^\xff", "grid 2, 2; a^\xff", "grid 2, 2; // ^\xc3", "grid 2, 2;\n/* å^\xe2\x82 */", "\"^\xed\xa0\x80\"", "@ ^\xff", "\n\n^\xf0\x9f\x98",
		"let a = ^1a;", "grid 2, ^100000;", "grid 2,\n^00100000;", "let a = ^0x10;", "let a = 1^.5;",
		"station ^\"a", "station ^\"a\nb\" at 0, 0;", "station ^\"\\u{d800}\" at 0, 0;", "station ^\"\\n\" at 0, 0;", "station ^\"\\u{110000}\" at 0, 0;",
		"grid 2, 2; ^/*", "grid 2, 2; ^/*/", "/* */ grid 2, 2;\n^/* // ", "// /*\n^/* a",
		"/* å */ ^@", "/* € */ ^@", "/* 😀 */ ^@", "/* å€😀 */ grid 2, 2; /* 😀€å */ ^@", "station \"å\" & \"€\" & \"😀\" at 0, ^å;", "// å€😀\n^é", "let ^é = 1;", "let a = \"é\"; let ^é = 2;",
		"grid 2, 2; ^\x00", "grid 2, 2; ^\u00a0", "^\ufeffgrid 2, 2;", "grid 2, 2^.", "grid 2, 2; ^'a'", "let a = b ^| c;",
	)
}

func TestSurveyOfParseFaults(t *testing.T) {
	surveyAs(t, impl.CodeParse,
		// at the end of the source, also behind a line's end
		"grid^", "grid ^", "grid\n^", "grid 2, 2^", "grid 2, 2\n\n^", "grid 2, 2 // å€😀^", "grid 2, 2 // å€😀\n^", "grid 2, 2 /* å\n€😀 */^", "for i = 0 to 1 {\n  wall i, i;\n^", "if true { } else^", "macro f(int a,\n^",
		"station \"å€😀\"^", "station \"å€😀\"\n^", "let a = (1^", "let a = -^", "call f(^",
		// at a token
		"^}", "^2", "grid 2, 2;\n^2;", "grid 2 ^;", "grid 2, 2;^;", "^else { }", "grid 2, 2; ^int a;", "macro f() { ^macro g() { } }", "let a = 1 +\n^;", "let a ^== 1;", "let ^grid = 1;",
		"grid 2, 2;\r\n\tgrid^;", "lane 0, 0 ^up;", "zone 0, 0 ^9;", "gate 0, 0 ^to 1, 1 east;", "wall 0, 0 to 1^;", "for i = 0 ^{ }", "if true ^wall 0, 0;", "macro f(^bool a) { }", "call f(1 ^2);",
		// behind characters of two, three and four bytes
		"station \"å\" ^0, 0;", "station \"€\" ^0, 0;", "station \"😀\" ^0, 0;", "station \"å€😀\" & \"\\u{e5}\" ^0, 0;", "/* å */ /* € */ ^x", "// å\n/* 😀😀 */ grid 2, ^; // €", "let a = \"\ufffd\" ^\"b\";",
	)
}

func TestSurveyOfSizeFaults(t *testing.T) {
	rep := strings.Repeat
	// a source that is too large: behind its last byte that a source may have
	for _, head := range []string{"", "\n", "grid 2, 2;", "@", "\xff", "grid grid", "// å\n", "å", "€", "😀", "😀\n😀"} {
		for _, fill := range []string{" ", "\n", "x", "\xff", "\x80"} {
			src := head + rep(fill, 5000-len(head))
			for _, tail := range []string{fill, fill + fill, "@", "\n", "å", rep("€", 2000), rep("\n", 100000)} {
				surveyAs(t, impl.CodeSize, src+"^"+tail)
			}
		}
	}
	// a character over the edge is not counted, as not all of its bytes lie before it
	for _, c := range []string{"å", "€", "😀"} {
		for before := 1; before <= len(c); before++ {
			src := rep(" ", 5000-before) + c + "x"
			want := verdict{impl.CodeSize, 1, 5000 - before + 1}
			if before == len(c) {
				want.col++
			}
			if _, told := surveyOf(t, src); told != want {
				t.Errorf("%d bytes of %s: the test has it wrong, %v", before, c, told)
			}
		}
	}
	// one that is too large or too deep in another way: at its beginning, wherever that is
	name, text := rep("n", 31), rep("t", 61)
	for _, blank := range []string{"", " ", "\n\n", "// å\n", "grid 2, 2;\n"} {
		surveyAs(t, impl.CodeSize,
			"^"+blank+"let "+name+" = 1;", "^"+blank+"let a = "+name+";", "^"+blank+"call "+name+"();", "^"+blank+"for "+name+" = 1 to 2 { }", "^"+blank+"macro "+name+"() { }", "^"+blank+"macro f(int "+name+") { }",
			"^"+blank+"station \""+text+"\" at 0, 0;", "^"+blank+"let a = \""+rep("å", 31)+"\";", "^"+blank+"let a = \""+rep("\\u{0}", 61)+"\";",
			"^"+blank+"macro f(int a"+rep(", int a", 10)+") { }", "^"+blank+"call f(1"+rep(", 1", 10)+");", "^"+blank+"let a = "+rep("-", 58)+"1;", "^"+blank+rep("if true { ", 30)+rep("}", 30), "^"+manyNodes(4001))
	}
}

func TestSurveyOfNames(t *testing.T) {
	surveyAs(t, impl.CodeName,
		"grid 2, 2;\nlet a = ^b;", "grid 2, 2;\nstation \"å\" & ^x at 0, 0;", "grid 2, 2;\nstation \"å€😀\" &\n ^x at 0, 0;", "/* 😀 */ ^call f();", "grid 2, 2; for i = 0 to ^i { }",
		"let a = 1;\nmacro f() {\n  wall 0, ^a;\n}", "macro f() { }\n^macro f() { }", "\n\t^macro f(int a, int a) { }", "if ^a { let a = true; }", "if true { } else if ^a { }", "for i = 0 to 1 {\n let a = i;\n}\nwall ^a, 0;",
		"grid ^w, 2;", "macro f(int n) { if n > 0 { wall ^m, 0; } } call f(1);", "let a = ((\n^b));", "let a = -!-^b;", "macro f() { wall ^i, i; } for i = 0 to 1 { call f(); }",
	)
}

func TestSurveyOfTypes(t *testing.T) {
	surveyAs(t, impl.CodeType,
		"let a = 1 ^+ true;", "let a = 1 ^+\n true;", "let a = \"å\" \n ^+ 1;", "let a = ^!1;", "let a = ^-\"€\";", "grid 2, 2;\n^wall \"a\", 0;", "grid 2, 2;\n^station 1 at 0, 0;", "/* å */ ^if 1 { }", "^for i = true to 2 { }",
		"macro f(int a) { }\n^call f(\"a\");", "macro f(int a) { } ^call f();", "macro f(int a) { } ^call f(1, 2);", "macro f(text a) {\n  let b = a ^* 2;\n}", "if true { } else { let a = 1 ^== true; }", "for i = 0 to 1 { ^zone 0, 0 cost \"1\"; }",
		"if true { if false { let a = (1 + 2) ^& true; } }", "^grid true, 2;", "let a = \"b\"; ^lane a, 0 east;", "let a = true ^< false;", "let a = 1 + 2 * 3 ^|| true;",
	)
}

func TestSurveyOfLimits(t *testing.T) {
	surveyAs(t, impl.CodeLimit,
		"grid 2, 2;\nmacro f() {\n  ^call f();\n}\ncall f();", "grid 2, 2;\nmacro f(int n) {\n  if n > 0 { /* å */ ^call f(n - 1); }\n}\ncall f(32);", "macro f() { call g(); }\nmacro g() {\n\t^call f(); }\ncall f();",
		"grid 2, 2;\n  ^for i = 1 to 99999 { }", "for i = 1 to 99999 {\n  ^let a = i; }", "grid 2, 2; for i = 1 to 9998 { } ^let a = 1;", "grid 2, 2; for i = 1 to 9998 { }\n/* € */ ^if true { }",
		"macro f() {\n for i = 1 to 100 {\n  ^let a = 1; } }\nfor i = 1 to 99 { call f(); }", "if true { ^for i = 1 to 20000 { } }", "if false { } else if true { for i = 1 to 20000 {\n^wall i, i; } }",
		"for i = 1 to 180 { "+strings.Repeat("wall 0, 0;", 50)+" }\n ^grid 2, 2;", "macro f() { "+strings.Repeat("open 0, 0;", 50)+" }\nfor i = 1 to 180 { call f(); } ^bar 0, 0 east;",
	)
}

func TestSurveyOfValues(t *testing.T) {
	surveyAs(t, impl.CodeValue,
		"grid 2, 2;\nlet a = 1\n^/ 0;", "grid 2, 2; let a = \"å€😀\" & 7 ^% 0;", "grid 2, 2; let a = 99999 ^* 99999;", "let a = 1000 * 1000 ^+ 1;", "let a = 0 - 1000 * 1000 ^- 1;", "let a = \""+strings.Repeat("å", 30)+"\" ^& 1;",
		"macro f(int n) {\n  let a = 10 ^/ n;\n}\ncall f(1);\ncall f(0);", "for i = 0 to 9 {\n  let a = 1\n ^% (i - 5);\n}", "if 1 ^/ 0 == 1 { }", "if false { } else if 1 ^/ 0 == 1 { }", "if true {\n\tlet a = 1 ^/ 0;\n}", "if false { } else {\n\tlet a = 1 ^/ 0;\n}",
		"grid 1 ^/ 0, 2;", "grid 2, 2; wall 0, 0 to 0, 1 ^/ 0;", "macro f(int n) { } call f(1 ^/ 0);", "for i = 1 ^/ 0 to 2 { }", "for i = 1 to 2 ^/ 0 { }", "macro f(int n) {\n if n == 0 { let a = n ^/ n; } else { call f(n - 1); }\n}\ncall f(9);",
	)
}

// The place is that of the declaration that is wrong, not of what called or repeated it.
func TestSurveyOfDeclarations(t *testing.T) {
	surveyAs(t, impl.CodeValue,
		// the first is no grid, or one that is too small or too great
		"^wall 0, 0;", " ^grid 0, 2;", "\n\n  ^grid 41, 1;", "/* å */ ^grid 1, -1;", "let a = 1;\n^wall 0, 0; grid 2, 2;", "let a = 1;\n^station \"a\" at 0, 0;", "macro f() {\n  ^wall 0, 0;\n}\ncall f(); grid 2, 2;",
		"if true {\n ^grid 0, 0; }", "for i = 41 to 42 { ^grid i, i; }", "if false { grid 2, 2; }\n ^open 0, 0;", "macro f(int n) { ^grid n, n; } call f(0);",
		// a second grid
		"grid 2, 2; ^grid 2, 2;", "grid 2, 2;\n\t^grid 3, 3; grid 4, 4;", "for i = 1 to 2 {\n  ^grid 2, 2;\n}", "macro f() { ^grid 2, 2; } call f();\ncall f();", "macro f() { ^grid 2, 2; }\ngrid 2, 2;\ncall f();",
		// out of the grid
		"grid 2, 2;\n^wall 2, 0;", "grid 2, 2; /* 😀 */ ^wall 0, 0 to 0, 2;", "grid 2, 2; ^open -1, 0;", "grid 2, 2; ^lane 0, 0 to 9, 0 east;", "grid 2, 2; ^gate 2, 2 east;", "grid 2, 2; ^bar 0, 2 east;", "grid 2, 2; ^zone 0, 0 to 2, 2 cost 1;", "grid 2, 2; ^station \"a\" at 2, 0;", "grid 2, 2; ^charger \"a\" at 0, -1;",
		"grid 2, 2;\nfor i = 0 to 3 {\n  ^wall i, 0;\n}", "grid 2, 2;\nfor i = 0 to 3 {\n  wall 0, 0; ^wall i, 0; wall i, 0;\n}", "grid 2, 2;\nmacro f(int x) {\n  wall 0, 0;\n  ^wall x, 0;\n}\ncall f(1); call f(2); call f(3);",
		"macro f(int x) { if x > 1 { ^wall x, x; } else { wall x, x; } }\ngrid 2, 2; for i = 0 to 5 { call f(i); }", "grid 2, 2; if true { if false { } else { ^open 5, 5; } }",
		// costs
		"grid 2, 2; ^zone 0, 0 cost 0;", "grid 2, 2; ^zone 0, 0 cost 10;", "grid 2, 2;\nfor i = 1 to 10 {\n ^zone 0, 0 cost i;\n}",
		// names and cells of targets
		"grid 2, 2; ^station \"\" at 0, 0;", "grid 2, 2; station \"a\" at 0, 0; ^charger \"a\" at 1, 1;", "grid 2, 2; station \"å\" at 0, 0; ^charger \"å\" & \"\" at 1, 1;", "grid 2, 2; station \"a\" at 0, 0;\n^charger \"b\" at 0, 0;", "grid 2, 2;\nfor i = 0 to 1 {\n  ^station \"s\" & i at 0, 0;\n}", "grid 2, 2;\nfor i = 0 to 1 {\n  ^station \"s\" at 0, i;\n}",
		"grid 2, 2; macro f(text n) { ^station n at 0, 0; }\ncall f(\"a\"); call f(\"b\");",
		// a wall under a target, which is seen at the end alone: the first that was declared, not the first by name
		"grid 2, 2; ^station \"a\" at 0, 0;\n wall 0, 0 to 1, 1;", "grid 2, 2; wall 0, 0; ^station \"a\" at 0, 0;", "grid 2, 2; ^station \"z\" at 0, 0; station \"a\" at 1, 0; wall 0, 0 to 1, 1;", "grid 2, 2; station \"z\" at 0, 1; ^charger \"å\" at 1, 0; station \"a\" at 0, 0; wall 0, 0 to 1, 0;",
		"grid 3, 1;\nfor i = 0 to 2 {\n  ^station \"s\" & i at i, 0;\n}\nwall 2, 0;", "macro dock(int x) {\n  ^charger \"c\" & x at x, 0;\n}\ngrid 3, 1; call dock(0); call dock(1); call dock(2); wall 1, 0;", "grid 2, 2; ^station \"a\" at 0, 0; if true { wall 0, 0; }",
	)
	// too many targets
	surveyAs(t, impl.CodeLimit,
		"grid 40, 1;\nfor i = 0 to 39 {\n  ^station \"s\" & i at i, 0;\n}", "grid 40, 1; for i = 0 to 29 { charger \"s\" & i at i, 0; }\n/* å */ ^station \"a\" at 30, 0; station \"b\" at 31, 0;", "macro f(int i) {\n ^charger \"c\" & i at i, 0; }\ngrid 40, 1; for i = 0 to 39 { call f(i); }",
		"grid 40, 1; wall 0, 0; for i = 0 to 39 { ^station \"s\" & i at i, 0; }",
	)
}

// With no declaration at all the fault is at the beginning, wherever the first token is.
func TestSurveyOfNoDeclarations(t *testing.T) {
	surveyAs(t, impl.CodeValue,
		"^", "^ ", "^\n", "^\n\n\n", "^// a comment alone", "^// å\n", "^/* a comment\nalone */", "^\t\r\n  /* */ // €",
		"^let a = 1;", "^\n\n  let a = 1;", "^macro f() { grid 2, 2; }", "^\n macro f() { wall 0, 0; }", "^\nif false { grid 2, 2; }", "^\n\tfor i = 1 to 0 { grid 2, 2; }", "^/* å */ macro f() { } call f();", "^\n  if true { } else { grid 2, 2; }",
	)
	if l, code, line, col := impl.Survey(nil); !sameLayout(l, impl.Layout{}) || (verdict{code, line, col}) != (verdict{impl.CodeValue, 1, 1}) {
		t.Errorf("nil: %v, %d at %d, %d", l, code, line, col)
	}
}

// Of two faults that of the first stage is told, though the other one stands ahead of it.
func TestSurveyOfTwoFaults(t *testing.T) {
	long := strings.Repeat("n", 31)
	stages := [][]string{ // each has its fault where the mark stands; earlier rows are found earlier
		{"let a0 = ^@;"},
		{"grid 2, 2; let ^to = 1;"},
		{"let " + long + " = 1;"},
		{"let a1 = ^b1;", "^call f();"},
		{"let a2 = 1 ^+ true;", "^wall true, 0;"},
		{"let a3 = 1 ^/ 0;", "^for i = 1 to 99999 { }"},
		{"^wall 9, 9;", "^zone 0, 0 cost 10;", "^station \"\" at 0, 0;"},
		{"^station \"a\" at 0, 1; wall 0, 0 to 0, 1;"},
	}
	codes := []int{impl.CodeLex, impl.CodeParse, impl.CodeSize, impl.CodeName, impl.CodeType, 0, impl.CodeValue, impl.CodeValue}
	pairs := 0
	for early, firsts := range stages {
		for _, lates := range stages[early+1:] {
			for _, first := range firsts {
				for _, late := range lates {
					code := codes[early]
					switch {
					case code == 0 && strings.Contains(first, "/"):
						code = impl.CodeValue
					case code == 0:
						code = impl.CodeLimit
					}
					late = strings.Replace(late, "^", "", 1)
					grid := "grid 2, 2;\n"
					if code == impl.CodeSize {
						grid = "^" + grid
					}
					surveyAs(t, code, grid+late+"\n"+first, grid+first+"\n"+late)
					pairs++
				}
			}
		}
	}
	if pairs < 60 {
		t.Errorf("%d pairs", pairs)
	}
	surveyAs(t, impl.CodeValue, "wall 9, 9; grid 1 ^/ 0, 1;", "station \"\" at 9, 9;\nlet a = 5 ^% 0;", "grid 2, 2; station \"a\" at 0, 0; wall 0, 0;\n ^grid 1, 1;")
	surveyAs(t, impl.CodeName, "let a = 1 + true; wall ^b, 0;", "grid 0, 0; let c = 1 / 0; ^call g();")
	surveyAs(t, impl.CodeParse, "let a = b; call g(); wall true, 1 / 0; ^;", "let "+long+" = 1; grid^")
	surveyAs(t, impl.CodeLex, "grid grid grid } { ^$", "let let = b; \"a\" ^\"b")
	surveyAs(t, impl.CodeSize, "@\xff grid grid let a = b; "+strings.Repeat(" ", 5000-len("@x grid grid let a = b; "))+"^ ")
}

// Layouts by the lines of their picture, each with no line and no column.
func TestSurveyOfSources(t *testing.T) {
	for src, want := range map[string]string{
		"grid 1, 1;": ".\n",
		"grid 3, 2;": "...\n...\n",
		"grid 2, 3; wall 0, 0; wall 1, 1 to 1, 2;":                            "#.\n.#\n.#\n",
		"grid 3, 3; wall 0, 0 to 2, 2; open 1, 1;":                            "###\n#.#\n###\n",
		"// å\ngrid 3, 1; zone 1, 0 to 2, 0 cost 4; zone 2, 0 cost 9; /* end": "",
		"// å\ngrid 3, 1; zone 1, 0 to 2, 0 cost 4; zone 2, 0 cost 9; // end": ".49\n",
		"grid 2, 2; station \"å\" at 1, 1; charger \"\\u{41}\" at 0, 0;":      "C.\n.S\ncharger \"A\" 0 0\nstation \"å\" 1 1\n",
		"macro row(int y, text n) { for x = 0 to 2 { if (x + y) % 2 == 0 { station n & x & y at x, y; } else { wall x, y; } } } grid 3, 2; for y = 0 to 1 { call row(y, \"s\"); }": "S#S\n#S#\nstation \"s00\" 0 0\nstation \"s11\" 1 1\nstation \"s20\" 2 0\n",
		"let w = 2; let h = w * 2; grid h, w; for i = 0 to h - 1 { let c = i + 1; if c > 1 && c < 4 { zone i, 0 cost c; } else if c == 4 { wall i, 1; } }":                         ".23.\n...#\n",
		"macro down(int n) { if n >= 0 { wall n, 0; call down(n - 2); } } grid 6, 1; call down(5);":                                                                                ".#.#.#\n",
		"if true { if !false { grid 1, 2; } } charger \"a\" & -1 & \"\" at 0, 1 - 1 % 2;":                                                                                          "C\n.\ncharger \"a-1\" 0 0\n",
	} {
		l, told := surveyOf(t, src)
		if (told.code == impl.CodeOK) != (want != "") || wantShow(l) != want {
			t.Errorf("%s: the test has it wrong, %v, %s", src, told, wantShow(l))
		}
		got, code, line, col := impl.Survey([]byte(src))
		if want != "" && (code != impl.CodeOK || line != 0 || col != 0 || string(impl.ShowLayout(got)) != want) {
			t.Errorf("%s: %d at %d, %d\n%s", src, code, line, col, impl.ShowLayout(got))
		}
	}
}

// Programs that a maker wrote, with blanks and comments between their tokens: the places are the maker's.
func TestSurveyOfMadePrograms(t *testing.T) {
	codes := map[int]int{}
	for seed := range int64(800) {
		w := newAuthor(300000+seed, int(seed%4)*40)
		p := w.program()
		if seed%2 == 0 {
			p.kids = append([]sprout{kind(impl.NodeGrid, number(11), number(11))}, p.kids...)
		}
		s := &scribe{r: w.r}
		s.program(p)
		if len(s.src) > 5000 || p.deep() > 60 {
			continue
		}
		want, told := surveyMade(p.flat(), s)
		codes[told.code]++
		got, code, line, col := impl.Survey(s.src)
		if (verdict{code, line, col}) != told || !sameLayout(got, want) {
			t.Fatalf("%s: %v, %v, not %v, %v", s.src, got, verdict{code, line, col}, want, told)
		}
		if tidy := tidyOf(t, s.src); string(tidy) != wantPrint(p) {
			t.Fatalf("Tidy(%s): %s, not %s", s.src, tidy, wantPrint(p))
		}
		compileIs(t, s.src, want, told)
	}
	for _, code := range []int{impl.CodeOK, impl.CodeName, impl.CodeType, impl.CodeValue} {
		if codes[code] < 50 {
			t.Errorf("few of a sort: %v", codes)
		}
	}
}

// surveyMade answers what Survey is to answer for a tree that was written down with its places.
func surveyMade(tree []impl.Node, s *scribe) (impl.Layout, verdict) {
	decls, code, node, _ := wantRun(tree)
	if code != impl.CodeOK {
		return impl.Layout{}, verdictAt(string(s.src), code, s.places[node])
	}
	l, code, i := wantDenote(decls)
	at := 0
	if len(decls) > 0 {
		at = s.places[decls[i].Node]
	}
	return l, verdictAt(string(s.src), code, at)
}

func TestWalksOfCompiledSources(t *testing.T) {
	for i, src := range []string{exampleSource, strings.Replace(exampleSource, "station", "gate 3, 2 north;\nstation", 1), "grid 3, 3; lane 0, 0 to 2, 0 east; wall 1, 1; zone 0, 2 cost 5; station \"a\" at 2, 2; charger \"b\" at 0, 0; bar 2, 0 south;"} {
		l := surveyFine(t, src)[0]
		image, _, _, _ := impl.Compile([]byte(src))
		walksAreShortest(t, fmt.Sprint("source ", i), l, image, plainRoute)
	}
}
