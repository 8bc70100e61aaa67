package tests

import (
	"slices"
	"strings"
	"testing"

	"loop.example/s02126/impl"
)

// lexAs wants the tokens of a source to have these kinds and, joined by spaces, these texts (so none has a space).
func lexAs(t *testing.T, src string, texts string, kinds ...int) {
	t.Helper()
	toks, code, at := impl.Lex([]byte(src))
	if code != impl.CodeOK || at != 0 {
		t.Errorf("Lex(%q): %d at %d", src, code, at)
		return
	}
	var gotTexts []string
	var gotKinds []int
	for _, k := range toks {
		gotTexts = append(gotTexts, src[k.At:k.At+k.Len])
		gotKinds = append(gotKinds, k.Kind)
	}
	if strings.Join(gotTexts, " ") != texts || !slices.Equal(gotKinds, kinds) {
		t.Errorf("Lex(%q): %q, kinds %v", src, gotTexts, gotKinds)
	}
}

func lexFault(t *testing.T, src string, code, at int) {
	t.Helper()
	toks, c, a := impl.Lex([]byte(src))
	if c != code || a != at || len(toks) != 0 {
		t.Errorf("Lex(%.40q): %d at %d with %d tokens, not %d at %d", src, c, a, len(toks), code, at)
	}
}

func TestLexWords(t *testing.T) {
	all := strings.Fields(words)
	if len(all) != 26 {
		t.Fatalf("%d words", len(all))
	}
	for _, w := range all {
		lexAs(t, w, w, impl.TokWord)
		for _, name := range []string{w + "s", "s" + w, w + "_", "_" + w, w + "1", strings.ToUpper(w), strings.ToUpper(w[:1]) + w[1:], w[:len(w)-1] + "x"} {
			lexAs(t, name, name, impl.TokName)
		}
		lexAs(t, "("+w+")", "( "+w+" )", impl.TokSign, impl.TokWord, impl.TokSign)
	}
}

func TestLexSigns(t *testing.T) {
	all := strings.Fields(signs)
	if len(all) != 22 {
		t.Fatalf("%d signs", len(all))
	}
	for _, s := range all {
		lexAs(t, s, s, impl.TokSign)
		lexAs(t, "a"+s+"1", "a "+s+" 1", impl.TokName, impl.TokSign, impl.TokInt)
		lexAs(t, s+"\"\"", s+" \"\"", impl.TokSign, impl.TokText)
	}
	lexAs(t, "===", "== =", impl.TokSign, impl.TokSign)
	lexAs(t, "&&&", "&& &", impl.TokSign, impl.TokSign)
	lexAs(t, "<=>", "<= >", impl.TokSign, impl.TokSign)
	lexAs(t, "!==", "!= =", impl.TokSign, impl.TokSign)
	lexAs(t, "=<", "= <", impl.TokSign, impl.TokSign)
	lexAs(t, "= =", "= =", impl.TokSign, impl.TokSign)
	lexAs(t, "||||", "|| ||", impl.TokSign, impl.TokSign)
	lexAs(t, "*/", "* /", impl.TokSign, impl.TokSign)
	lexAs(t, "<<", "< <", impl.TokSign, impl.TokSign)
}

func TestLexNamesAndNumbers(t *testing.T) {
	long := strings.Repeat("a", 31)
	for _, name := range []string{"a", "z", "A", "Z", "_", "__", "_1", "a0_Z9", "aZ", long, strings.Repeat("_", 5000)} {
		lexAs(t, name, name, impl.TokName)
	}
	for _, n := range []string{"0", "9", "00", "007", "12345", "99999", "00099999", strings.Repeat("0", 5000), strings.Repeat("0", 4995) + "99999"} {
		lexAs(t, n, n, impl.TokInt)
	}
	for _, n := range []string{"100000", "00100000", "99999999999999999999999", "18446744073709551617", "1a", "1_", "1_0", "0x1", "1e5", "9Z", "123abc", "007_"} {
		lexFault(t, n, impl.CodeLex, 0)
		lexFault(t, "a "+n, impl.CodeLex, 2)
		lexFault(t, n+" @", impl.CodeLex, 0)
	}
	lexAs(t, "-1", "- 1", impl.TokSign, impl.TokInt)
	lexAs(t, "1\"\"1", "1 \"\" 1", impl.TokInt, impl.TokText, impl.TokInt)
	lexAs(t, "1/**/a", "1 a", impl.TokInt, impl.TokName)
	lexFault(t, "1.5", impl.CodeLex, 1)
	lexFault(t, "aå", impl.CodeLex, 1)
	lexFault(t, "1å", impl.CodeLex, 1)
}

func TestLexTexts(t *testing.T) {
	for _, s := range []string{`""`, `"a"`, `"\""`, `"\\"`, `"//"`, `"/*"`, `"\u{1F600}"`, `"å€😀"`, "\"\t\x00\x7f\"", `"` + strings.Repeat("x", 61) + `"`} {
		lexAs(t, s, s, impl.TokText)
		lexAs(t, s+s, s+" "+s, impl.TokText, impl.TokText)
		lexAs(t, "a"+s+"b", "a "+s+" b", impl.TokName, impl.TokText, impl.TokName)
	}
	lexAs(t, `"\\"a"\""`, `"\\" a "\""`, impl.TokText, impl.TokName, impl.TokText)
	for _, s := range []string{`"`, `"a`, `"\"`, `"\\\"`, "\"a\nb\"", "\"\n", `"\n"`, `"\x"`, `"\u{}"`, `"\u{1234567}"`, `"\u{d800}"`, `"\u{110000}"`, `"\u{41"`, `"\u41"`, `"\`} {
		lexFault(t, s, impl.CodeLex, 0)
		lexFault(t, "b "+s, impl.CodeLex, 2)
		lexFault(t, s+"\n@", impl.CodeLex, 0)
	}
	lexFault(t, `"a""`, impl.CodeLex, 3)
	lexFault(t, `'a'`, impl.CodeLex, 0)
}

func TestLexBlanksAndComments(t *testing.T) {
	for _, s := range []string{"", " ", "\t", "\r", "\n", " \t\r\n ", "//", "// a", "//\n", "// å \" /* @\n", "/**/", "/* a */", "/***/", "/****/", "/* \n // \" @ å */", "/*/*/", "/*//*/", "//*/", "// a\n//b", "/**//**/", "/* * / */"} {
		lexAs(t, s, "")
		lexAs(t, "a"+s+"\nb", "a b", impl.TokName, impl.TokName)
	}
	lexAs(t, "a//b\nc", "a c", impl.TokName, impl.TokName)
	lexAs(t, "a/*b*/c", "a c", impl.TokName, impl.TokName)
	lexAs(t, "a/*b*/*/c", "a * / c", impl.TokName, impl.TokSign, impl.TokSign, impl.TokName)
	lexAs(t, "a//b\r c", "a", impl.TokName)
	lexAs(t, "a / / b", "a / / b", impl.TokName, impl.TokSign, impl.TokSign, impl.TokName)
	lexAs(t, "a/ *b", "a / * b", impl.TokName, impl.TokSign, impl.TokSign, impl.TokName)
	for _, s := range []string{"/*", "/*/", "/* a", "/* * /", "/*\n", "/* /* ", "/*\"*\"/"} {
		lexFault(t, s, impl.CodeLex, 0)
		lexFault(t, "a\n"+s, impl.CodeLex, 2)
		lexFault(t, "/**/"+s, impl.CodeLex, 4)
	}
	for c := 0; c < 0x80; c++ {
		if strings.ContainsRune("#$'.:?@[\\]^`|~", rune(c)) || c < 32 && c != 9 && c != 10 && c != 13 || c == 127 {
			lexFault(t, string(rune(c)), impl.CodeLex, 0)
			lexFault(t, "a "+string(rune(c))+" b", impl.CodeLex, 2)
		}
	}
	for _, s := range []string{"\u0080", "\u00a0", "å", "\u0660", "\u2028", "\u3000", "\ufeff", "😀", "| |", "|"} {
		lexFault(t, s, impl.CodeLex, 0)
		lexFault(t, "x,"+s, impl.CodeLex, 2)
	}
}

func TestLexFirstFault(t *testing.T) {
	lexFault(t, "@ \xff", impl.CodeLex, 2)
	lexFault(t, "/* \xff", impl.CodeLex, 3)
	lexFault(t, "// \xff", impl.CodeLex, 3)
	lexFault(t, "\"\xff\"", impl.CodeLex, 1)
	lexFault(t, "1a \xc0\x80", impl.CodeLex, 3)
	lexFault(t, "\xff@", impl.CodeLex, 0)
	lexFault(t, "1a @", impl.CodeLex, 0)
	lexFault(t, "a @ 1a", impl.CodeLex, 2)
	lexFault(t, "a \" /*", impl.CodeLex, 2)
	lexFault(t, "a /* \"", impl.CodeLex, 2)
	lexFault(t, "\"a\" 100000 #", impl.CodeLex, 4)
	for _, c := range []string{" ", "a", "@", "\xff", "1", "\"", "/"} {
		lexFault(t, strings.Repeat(c, 5001), impl.CodeSize, 5000)
		lexFault(t, strings.Repeat(c, 12000), impl.CodeSize, 5000)
	}
	lexFault(t, "@\xff"+strings.Repeat(" ", 4999), impl.CodeSize, 5000)
	lexFault(t, strings.Repeat(" ", 4999)+"å", impl.CodeSize, 5000)
	lexFault(t, strings.Repeat(" ", 4999)+"@", impl.CodeLex, 4999)
	lexFault(t, strings.Repeat(" ", 4999)+"\xff", impl.CodeLex, 4999)
	lexFault(t, strings.Repeat(" ", 4998)+"/*", impl.CodeLex, 4998)
	lexAs(t, strings.Repeat(" ", 4999)+"a", "a", impl.TokName)
	lexAs(t, "//"+strings.Repeat("å", 2499), "")
	toks, code, at := impl.Lex([]byte(strings.Repeat(";", 5000)))
	if len(toks) != 5000 || code != impl.CodeOK || at != 0 {
		t.Errorf("%d tokens, %d at %d", len(toks), code, at)
	}
}

func compareLex(t *testing.T, src string) {
	toks, code, at := impl.Lex([]byte(src))
	want, c, a := wantLex(src)
	if code != c || at != a || !slices.Equal(toks, want) {
		t.Fatalf("Lex(%q): %v, %d at %d, not %v, %d at %d", src, toks, code, at, want, c, a)
	}
	if code == impl.CodeOK {
		coversAll(t, src, toks)
	}
}

// coversAll wants nothing but blanks and comments before, between and behind the tokens.
func coversAll(t *testing.T, src string, toks []impl.Token) {
	end := 0
	for _, k := range append(slices.Clone(toks), impl.Token{At: len(src)}) {
		if k.At < end {
			t.Fatalf("Lex(%q): a token at %d begins before %d", src, k.At, end)
		}
		if gap := src[end:k.At]; gapForm.FindString(gap) != gap {
			t.Fatalf("Lex(%q): %q is passed over", src, gap)
		}
		end = k.At + k.Len
	}
}

func TestLexOfAllShortSources(t *testing.T) {
	visit := func(src string) { compareLex(t, src) }
	everyRow([]string{"/", "*", "\n", "\"", "a"}, 6, visit)
	everyRow([]string{"\"", "\\", "u{4", "}", "1", "\n", "/*"}, 5, visit)
	everyRow([]string{"=", "!", "<", ">", "&", "|", "+", "%"}, 4, visit)
	everyRow([]string{"a", "_", "0", "9999", "grid", " ", "\t", "\r", "\n", "//", "/*", "*/", "\"", "\\", "&", "=", "|", "å", "\xff", "@", "{"}, 3, visit)
}

func TestLexIsNewMemory(t *testing.T) {
	for _, src := range []string{"", "a", "1", "\"a\"", "/", "&", "grid 1, 2;", "// a", "@", "\"a", "/* a", "a\xc3"} {
		memory := append([]byte(src), "*/\"&1aa"...)
		before := string(memory)
		toks, code, at := impl.Lex(memory[:len(src)])
		if string(memory) != before {
			t.Fatalf("Lex(%q) writes into its argument", src)
		}
		want, c, a := wantLex(src)
		if code != c || at != a || !slices.Equal(toks, want) {
			t.Errorf("Lex(%q) hangs on what lies behind", src)
		}
		again, _, _ := impl.Lex(memory[:len(src)])
		clear(toks)
		if !slices.Equal(again, want) {
			t.Errorf("Lex(%q): two answers share memory", src)
		}
	}
	if toks, code, at := impl.Lex(nil); len(toks) != 0 || code != impl.CodeOK || at != 0 {
		t.Errorf("nil: %v, %d at %d", toks, code, at)
	}
}
