package tests

import (
	"bytes"
	"math"
	"math/rand"
	"slices"
	"strings"
	"sync"
	"testing"

	"loop.example/s02126/impl"
)

// answersFor calls all functions of compiling with a source, holds them against the document, and counts the code.
func answersFor(t *testing.T, codes map[int]int, src string) {
	t.Helper()
	l, told := surveyOf(t, src)
	codes[told.code]++
	got, _, _, _ := impl.Survey([]byte(src))
	if text := impl.Rewrite(got); string(text) != wantRewrite(l) {
		t.Errorf("Rewrite of the layout of %s: %s", sourceText(src), text)
	}
}

// few wants each of these codes to have been met so many times.
func few(t *testing.T, codes map[int]int, least int, wanted ...int) {
	t.Helper()
	for _, code := range wanted {
		if codes[code] < least {
			t.Errorf("code %d: few of a sort in %v", code, codes)
		}
	}
}

func TestSourcesOfMadeBytes(t *testing.T) {
	r := rand.New(rand.NewSource(370000))
	codes := map[int]int{}
	alphabets := []string{"", "\x00\x01\n \"\\/*\x7f\x80\xbf\xc3\xa5\xff", " \n\t;,(){}=<>&|+-*/%!", "grid 1,;\n", "gridwallopenlanezonecost 0123456789,;\n\"åab{}", "let =1;\n", "//*\n*/ "}
	for i := range 6000 {
		alphabet := pick(r, alphabets...)
		b := make([]byte, r.Intn(40))
		r.Read(b)
		for j := range b {
			if alphabet != "" {
				b[j] = alphabet[int(b[j])%len(alphabet)]
			}
		}
		src := string(b)
		if i%3 == 0 {
			src = "grid 2, 2; " + src
		}
		answersFor(t, codes, src)
	}
	for _, n := range []int{4998, 4999, 5000, 5001, 5002, 20000} {
		for range 4 {
			b := make([]byte, n)
			r.Read(b)
			answersFor(t, codes, string(b))
		}
		for c := range 256 {
			answersFor(t, codes, string(bytes.Repeat([]byte{byte(c)}, n)))
		}
	}
	few(t, codes, 30, impl.CodeOK, impl.CodeLex, impl.CodeParse, impl.CodeSize, impl.CodeValue)
}

func TestSourcesOfMadeTokens(t *testing.T) {
	r := rand.New(rand.NewSource(380000))
	codes := map[int]int{}
	tokens := append(allTokens(), "y", "0", "1", "2", `""`, `"å"`, "99999", "true", ";", ";", ",", ",")
	for i := range 4000 {
		src := strings.Repeat("grid 3, 3; ", i%2)
		for range r.Intn(15) {
			src += pick(r, tokens...) + pick(r, " ", "\n", "/**/", "//\n")
		}
		answersFor(t, codes, src)
	}
	few(t, codes, 100, impl.CodeOK, impl.CodeParse, impl.CodeValue)
}

// Rows of tokens that the grammar takes, drawn one by one from those that can come next.
func TestSourcesOfTokensThatCanGoOn(t *testing.T) {
	r := rand.New(rand.NewSource(390000))
	codes := map[int]int{}
	stands := map[string][]string{"NAME": {"x", "y", "f"}, "INT": {"0", "1", "2", "3"}, "TEXT": {`"s"`, `"å"`, `""`}}
	for i := range 800 {
		c := newChart()
		src := ""
		if i%2 == 0 {
			src = "grid 3, 3; let x = 1; let y = 2; macro f() { }\n"
		}
		for range 60 {
			var next []string
			for token := range c.next() {
				next = append(next, token)
			}
			slices.Sort(next)
			token := pick(r, next...)
			// long expressions and blocks would never come to an end
			if short := slices.DeleteFunc(slices.Clone(next), func(s string) bool { return !strings.Contains("INT NAME TEXT ; , ) }", s) }); len(short) > 0 && r.Intn(4) > 0 {
				token = pick(r, short...)
			}
			c = c.read(token)
			if all := stands[token]; all != nil {
				token = pick(r, all...)
			}
			src += token + pick(r, " ", "\n")
			if c.complete() && r.Intn(3) == 0 {
				break
			}
		}
		answersFor(t, codes, src)
	}
	few(t, codes, 10, impl.CodeOK, impl.CodeParse, impl.CodeName, impl.CodeType, impl.CodeValue)
}

// noiseSources are valid, and have something of everything.
var noiseSources = []string{
	exampleSource,
	"macro row(int y, text n) { for x = 0 to 2 { if (x + y) % 2 == 0 { station n & x & y at x, y; } else if x > 5 { open x, y; } else { wall x, y; } } }\ngrid 3, 2; /* å */ for y = 0 to 1 { call row(y, \"€\"); } // 😀",
	"let w = 3; grid w, -(-w);\nzone 0, 0 to w - 1, 1 cost 9; lane 0, 2 to 2, 2 west; gate 0, 0 north; bar 1, 1 south; charger \"\\u{e5}\\\"\\\\\" at 2 * 1, w / 2; if !(w != 3) && true || false { open 0, 0; }",
}

func TestSourcesCutShort(t *testing.T) {
	codes := map[int]int{}
	for _, src := range noiseSources {
		surveyFine(t, src)
		for n := range len(src) + 1 {
			answersFor(t, codes, src[:n])
			answersFor(t, codes, src[n:])
		}
	}
	few(t, codes, 10, impl.CodeOK, impl.CodeLex, impl.CodeParse, impl.CodeValue)
}

func TestSourcesWithAByteChanged(t *testing.T) {
	codes := map[int]int{}
	for _, src := range noiseSources {
		for at := range len(src) {
			for _, c := range []byte("\x00\n \"/;,){x1-\xc3\xff") {
				answersFor(t, codes, src[:at]+string([]byte{c})+src[at+1:])
			}
			answersFor(t, codes, src[:at]+src[at+1:])
			answersFor(t, codes, src[:at]+string(src[at])+src[at:])
		}
	}
	few(t, codes, 20, impl.CodeOK, impl.CodeLex, impl.CodeParse, impl.CodeName, impl.CodeType, impl.CodeValue)
}

// Layouts of any numbers have no text, or that of the document.
func TestRewriteOfAnyLayouts(t *testing.T) {
	r := rand.New(rand.NewSource(400000))
	odd := []int{math.MinInt, -1, 0, 1, 2, 3, 40, 41, 1 << 32, math.MaxInt}
	for range 20000 {
		l := impl.Layout{W: pick(r, odd...), H: pick(r, odd...)}
		for range r.Intn(5) {
			l.Cost, l.Exits = append(l.Cost, pick(r, odd...)), append(l.Exits, pick(r, odd...))
		}
		for range r.Intn(3) {
			l.Targets = append(l.Targets, impl.Target{Name: []byte(pick(r, "", "a", "b", "\xff")), Kind: pick(r, odd...), Cell: pick(r, odd...)})
		}
		if got := impl.Rewrite(l); string(got) != wantRewrite(l) {
			t.Fatalf("Rewrite(%v): %q", l, got)
		}
	}
}

func TestCompilingIsNewMemory(t *testing.T) {
	const src = "grid 4, 3; macro m(text name) { station name at 0, 0; } call m(\"name\"); charger \"other\" at 3, 2; station \"å\" & 1 at 1, 1; wall 2, 2; zone 3, 0 cost 4;"
	memory := append([]byte(src), " wall 0, 0;"...)
	given := memory[:len(src)]
	l1, code, _, _ := impl.Survey(given)
	l2, _, _, _ := impl.Survey(given)
	i1, _, _, _ := impl.Compile(given)
	i2, _, _, _ := impl.Compile(given)
	t1, _, _, _ := impl.Tidy(given)
	t2, _, _, _ := impl.Tidy(given)
	want, told := wantSurvey(src)
	if code != impl.CodeOK || told != (verdict{}) || len(want.Targets) != 3 || !sameLayout(l1, want) || string(memory) != src+" wall 0, 0;" {
		t.Fatalf("%v, %d, %s", l1, code, memory)
	}
	all := slices.Concat(layoutExtents(l1), layoutExtents(l2), []extent{extentOf(memory), extentOf(i1), extentOf(i2), extentOf(t1), extentOf(t2)})
	shareNone(t, "Survey, Compile and Tidy", all)
	image, tidy := string(i1), string(t1)
	wipe(l1)
	clear(i1[:cap(i1)])
	clear(t1[:cap(t1)])
	clear(memory)
	if !sameLayout(l2, want) || string(i2) != image || string(t2) != tidy {
		t.Errorf("an answer hangs on the source or on another answer")
	}
	l3, _, _, _ := impl.Survey([]byte(src))
	i3, _, _, _ := impl.Compile([]byte(src))
	t3, _, _, _ := impl.Tidy([]byte(src))
	if !sameLayout(l3, want) || string(i3) != image || string(t3) != tidy {
		t.Errorf("an earlier call has left something behind")
	}
}

func TestRewriteIsNewMemory(t *testing.T) {
	plain := layoutOf(t, crowded)
	l := roomyLayout(plain)
	first, second := impl.Rewrite(l), impl.Rewrite(l)
	want := wantRewrite(plain)
	if string(first) != want || string(second) != want || !sameLayout(l, plain) {
		t.Fatalf("%s", first)
	}
	for _, x := range l.Targets {
		behindName(t, "Rewrite", x.Name)
	}
	n := len(l.Cost)
	if l.Cost[:n+1][n] != 7 || l.Exits[:n+1][n] != 7 || l.Targets[:4][3].Cell != 7 {
		t.Errorf("what lies behind a list of the layout is written into")
	}
	shareNone(t, "Rewrite", append(layoutExtents(l), extentOf(first), extentOf(second)))
	wipe(l)
	clear(first[:cap(first)])
	if string(second) != want || string(impl.Rewrite(plain)) != want {
		t.Errorf("the text hangs on the layout or on another answer")
	}
}

// What lies behind a source is not read: a source that is cut short means what it means by itself.
func TestSourcesAreTheirBytesAlone(t *testing.T) {
	for n := range len(exampleSource) {
		cut := []byte(exampleSource)[:n]
		l1, c1, line1, col1 := impl.Survey(cut)
		l2, c2, line2, col2 := impl.Survey([]byte(strings.Clone(exampleSource[:n])))
		if (verdict{c1, line1, col1}) != (verdict{c2, line2, col2}) || !sameLayout(l1, l2) || string(cut[:len(exampleSource)]) != exampleSource {
			t.Errorf("%q hangs on what lies behind it", cut)
		}
	}
}

// A call that refuses leaves nothing for the next, and calls at the same time do not meet.
func TestCompilingAnswersTheSameEachTime(t *testing.T) {
	sources := append(slices.Clone(noiseSources), "@", "grid", "let a = b;", "let a = !1;", "grid 2, 2; let a = 1 / 0;", "wall 0, 0;", "", greatSource, strings.Repeat(" ", 5001), "grid 2, 2; station \"a\" at 0, 0; wall 0, 0;")
	type answer struct {
		layout            impl.Layout
		image, tidy, text []byte
		told              [3]verdict
	}
	ask := func(src string) answer {
		var a answer
		var v [3]verdict
		a.layout, v[0].code, v[0].line, v[0].col = impl.Survey([]byte(src))
		a.image, v[1].code, v[1].line, v[1].col = impl.Compile([]byte(src))
		a.tidy, v[2].code, v[2].line, v[2].col = impl.Tidy([]byte(src))
		a.text, a.told = impl.Rewrite(a.layout), v
		return a
	}
	var wanted []answer
	for _, src := range sources {
		wanted = append(wanted, ask(src))
	}
	compare := func(i int) {
		a, b := ask(sources[i]), wanted[i]
		if !sameLayout(a.layout, b.layout) || !bytes.Equal(a.image, b.image) || !bytes.Equal(a.tidy, b.tidy) || !bytes.Equal(a.text, b.text) || a.told != b.told {
			t.Errorf("%s: another answer", sourceText(sources[i]))
		}
	}
	for i := range sources {
		for j := range sources {
			compare(i)
			compare(j)
		}
		if t.Failed() {
			return
		}
	}
	var done sync.WaitGroup
	for k := range 8 {
		done.Go(func() {
			for i := range sources {
				compare((i + k) % len(sources))
			}
		})
	}
	done.Wait()
}
