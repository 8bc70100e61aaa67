package tests

import (
	"strings"
	"testing"

	"loop.example/s02126/impl"
)

// tidyAs wants a source to be printed so.
func tidyAs(t *testing.T, src string, lines ...string) {
	t.Helper()
	want := ""
	if len(lines) > 0 {
		want = strings.Join(lines, "\n") + "\n"
	}
	surveyOf(t, src)
	if got, code, line, col := impl.Tidy([]byte(src)); string(got) != want || (verdict{code, line, col}) != (verdict{}) {
		t.Errorf("Tidy(%s): %s, %v, not %s", sourceText(src), got, verdict{code, line, col}, want)
	}
}

func TestTidyCases(t *testing.T) {
	tidyAs(t, exampleSource, "grid 4, 3;", "macro shelf(int x) {", "  wall x, 0 to x, 1;", "}", "call shelf(1);", "lane 0, 2 to 3, 2 east;", `station "A" & 1 at 3, 0;`)
	tidyAs(t, "")
	tidyAs(t, " \n// nothing but å\n/* and € */")
	tidyAs(t, "grid 2,2;", "grid 2, 2;")
	tidyAs(t, "grid\n2\n,\n2\n;/* å */wall 00,((1));// end", "grid 2, 2;", "wall 0, 1;")
	tidyAs(t, "station\"\\u{41}\\u{0A}å\"at-1,-(1+2);", `station "A\u{a}å" at -1, -(1 + 2);`)
	tidyAs(t, "macro f(){}macro g(int a,text b){if a==1{}else if!(a<2){station b at a,a;}else{}}", "macro f() {", "}", "macro g(int a, text b) {", "  if a == 1 {", "  } else if !(a < 2) {", "    station b at a, a;", "  } else {", "  }", "}")
	tidyAs(t, "for i=0 to 3{for j=i to i*2{zone i,j to j,i cost 1+2*3-(4-5);}}", "for i = 0 to 3 {", "  for j = i to i * 2 {", "    zone i, j to j, i cost 1 + 2 * 3 - (4 - 5);", "  }", "}")
	tidyAs(t, "gate 0,0 north;bar 1,1 west;lane 2,2 south;open 3,3;charger\"c\"at 4,4;let a=true||false;call f(1,\"b\",a);", "gate 0, 0 north;", "bar 1, 1 west;", "lane 2, 2 south;", "open 3, 3;", `charger "c" at 4, 4;`, "let a = true || false;", `call f(1, "b", a);`)
}

// Only Parse is asked: what is wrong in a later stage is printed all the same.
func TestTidyOfSourcesThatMeanNothing(t *testing.T) {
	tidyAs(t, "let a=b;", "let a = b;")
	tidyAs(t, "call f();", "call f();")
	tidyAs(t, "macro f(){}macro f(){}", "macro f() {", "}", "macro f() {", "}")
	tidyAs(t, "let a=1+true;", "let a = 1 + true;")
	tidyAs(t, "wall \"a\",true;", `wall "a", true;`)
	tidyAs(t, "let a=1/0;", "let a = 1 / 0;")
	tidyAs(t, "macro f(){call f();}call f();", "macro f() {", "  call f();", "}", "call f();")
	tidyAs(t, "for i=1 to 99999{}", "for i = 1 to 99999 {", "}")
	tidyAs(t, "wall 9,9;", "wall 9, 9;")
	tidyAs(t, "grid 0,99999;grid 1,1;", "grid 0, 99999;", "grid 1, 1;")
	tidyAs(t, "grid 2,2;station\"\"at 0,0;", "grid 2, 2;", `station "" at 0, 0;`)
	tidyAs(t, "grid 2,2;wall 0,0;station\"a\"at 0,0;", "grid 2, 2;", "wall 0, 0;", `station "a" at 0, 0;`)
	tidyAs(t, "let a=\""+strings.Repeat("å", 30)+"\"&1;", `let a = "`+strings.Repeat("å", 30)+`" & 1;`)
}

// Where Parse fails, its fault is told as Survey tells it, with no text.
func TestTidyOfFaults(t *testing.T) {
	for src, want := range map[string]verdict{
		"grid 2, 2;\n @":                                  {impl.CodeLex, 2, 2},
		"grid 2, 2; // å\xff":                             {impl.CodeLex, 1, 16},
		"/* å€😀 */ grid":                                  {impl.CodeParse, 1, 15},
		"grid 2, 2;\n":                                    {},
		"grid 2, 2\n":                                     {impl.CodeParse, 2, 1},
		"station \"å€😀\" 1, 1;":                           {impl.CodeParse, 1, 15},
		strings.Repeat(" \n", 2501):                       {impl.CodeSize, 2501, 1},
		"\n" + manyNodes(4001):                            {impl.CodeSize, 1, 1},
		"\n\ncall f(1" + strings.Repeat(", 1", 10) + ");": {impl.CodeSize, 1, 1},
	} {
		text, code, line, col := impl.Tidy([]byte(src))
		if (verdict{code, line, col}) != want || (len(text) > 0) != (want.code == impl.CodeOK) {
			t.Errorf("Tidy(%s): %s, %v, not %v", sourceText(src), text, verdict{code, line, col}, want)
		}
		surveyOf(t, src)
	}
}

// A text that is tidy may be longer than a source can be: it is answered in full.
func TestTidyOfGreatTexts(t *testing.T) {
	short := func(n int) string { return "grid 1,1;" + strings.Repeat("open 0,0;", n) }
	tidy := func(n int) string { return "grid 1, 1;\n" + strings.Repeat("open 0, 0;\n", n) }
	for _, n := range []int{0, 1, 400, 452, 453, 454, 500, 554} {
		text, code, line, col := impl.Tidy([]byte(short(n)))
		if string(text) != tidy(n) || (verdict{code, line, col}) != (verdict{}) {
			t.Errorf("%d statements: %d bytes, not %d, %v", n, len(text), len(tidy(n)), verdict{code, line, col})
		}
		surveyFine(t, short(n))
		told := verdict{}
		if len(text) > 5000 {
			told = verdictAt(string(text), impl.CodeSize, 5000)
		}
		if _, got := surveyOf(t, string(text)); got != told {
			t.Errorf("the text of %d statements: the test has it wrong, %v", n, got)
		}
	}
	// exactly MaxSource bytes, and one more
	for _, size := range []int{4999, 5000, 5001, 5002} {
		src := "grid 1,1;" + strings.Repeat("open 0,0;", 452) + "let " + strings.Repeat("n", size-11-11*452-len("let  = 1;\n")) + "=1;"
		text, code, _, _ := impl.Tidy([]byte(src))
		if len(text) != size || code != impl.CodeOK {
			t.Errorf("%d bytes, not %d, %d", len(text), size, code)
		}
		l, _ := surveyOf(t, src)
		got, code, line, col := impl.Survey(text)
		if size <= 5000 && (code != impl.CodeOK || !sameLayout(l, got)) || size > 5000 && code != impl.CodeSize {
			t.Errorf("%d bytes: %d at %d, %d", size, code, line, col)
		}
	}
	// blocks in blocks are printed with many blanks
	deep := "grid 1,1;" + strings.Repeat("if true{", 28) + strings.Repeat("let a=1;", 200) + strings.Repeat("}", 28)
	text, code, _, _ := impl.Tidy([]byte(deep))
	surveyFine(t, deep)
	if want := 200 * (2*28 + len("let a = 1;\n")); code != impl.CodeOK || len(text) < want {
		t.Errorf("%d bytes, not more than %d, %d", len(text), want, code)
	}
	// quoted signs of one byte are printed with more
	signs := "let a=\"" + strings.Repeat("\x01", 60) + "\";"
	text, code, _, _ = impl.Tidy([]byte(strings.Repeat(signs, 70)))
	if want := 70 * (len("let a = \"\";\n") + 60*len(`\u{1}`)); code != impl.CodeOK || len(text) != want {
		t.Errorf("%d bytes, not %d, %d", len(text), want, code)
	}
}

// Tidy of any program, in whatever way it was written down.
func TestTidyOfMadePrograms(t *testing.T) {
	for seed := range int64(400) {
		sow := newSower(360000 + seed)
		p := sow.program(5)
		w := &scribe{r: sow.r}
		w.program(p)
		if len(w.src) > 5000 || p.deep() > 60 {
			continue
		}
		if text := tidyOf(t, w.src); string(text) != wantPrint(p) {
			t.Fatalf("Tidy(%s): %s, not %s", w.src, text, wantPrint(p))
		}
	}
}
