package tests

import (
	"fmt"
	"math/rand"
	"regexp"
	"slices"
	"strconv"
	"strings"

	"loop.example/s02126/impl"
)

// sprout is a node with the nodes below it; its Count is told by them.
type sprout struct {
	node impl.Node
	kids []sprout
}

func (s sprout) flat() []impl.Node {
	n := s.node
	n.Count = len(s.kids)
	out := []impl.Node{n}
	for _, k := range s.kids {
		out = append(out, k.flat()...)
	}
	return out
}

func (s sprout) deep() int {
	most := 0
	for _, k := range s.kids {
		most = max(most, k.deep())
	}
	return most + 1
}

func names(all ...string) [][]byte {
	var out [][]byte
	for _, s := range all {
		out = append(out, []byte(s))
	}
	return out
}

func kind(k int, kids ...sprout) sprout {
	return sprout{impl.Node{Kind: k}, kids}
}

func named(k int, name string, kids ...sprout) sprout {
	return sprout{impl.Node{Kind: k, Names: names(name)}, kids}
}

func pointed(k, n int, kids ...sprout) sprout {
	return sprout{impl.Node{Kind: k, N: n}, kids}
}

func program(kids ...sprout) sprout  { return kind(impl.NodeProgram, kids...) }
func block(kids ...sprout) sprout    { return kind(impl.NodeBlock, kids...) }
func number(n int) sprout            { return pointed(impl.NodeInt, n) }
func variable(name string) sprout    { return named(impl.NodeVar, name) }
func let(s string, e sprout) sprout  { return named(impl.NodeLet, s, e) }
func bin(op int, a, b sprout) sprout { return pointed(impl.NodeBin, op, a, b) }
func not(e sprout) sprout            { return kind(impl.NodeNot, e) }
func neg(e sprout) sprout            { return kind(impl.NodeNeg, e) }

func quoted(s string) sprout {
	return sprout{impl.Node{Kind: impl.NodeText, Text: []byte(s)}, nil}
}

func macro(name string, params []string, types []int, kids ...sprout) sprout {
	return sprout{impl.Node{Kind: impl.NodeMacro, Names: names(append([]string{name}, params...)...), Types: types}, kids}
}

// operatorLines are the operators as the document lists them: each line binds alike, a later one tighter.
var operatorLines = []string{"||", "&&", "== != < <= > >=", "&", "+ -", "* / %"}

var operatorSigns = strings.Fields(strings.Join(operatorLines, " "))

func lineOf(op int) int {
	return slices.IndexFunc(operatorLines, func(line string) bool {
		return slices.Contains(strings.Fields(line), operatorSigns[op])
	})
}

// inParentheses: an operand that is a NodeBin, unless its operator binds tighter, or alike on the left.
func inParentheses(op int, operand sprout, left bool) bool {
	if operand.node.Kind != impl.NodeBin {
		return false
	}
	inner, outer := lineOf(operand.node.N), lineOf(op)
	return !(inner > outer || inner == outer && left)
}

var wayNames = []string{"north", "east", "south", "west"}

var statWords = strings.Fields("let call for if grid wall open lane gate bar zone station charger")

// wantPrint writes a valid tree as lines.
func wantPrint(s sprout) string {
	var b strings.Builder
	for _, k := range s.kids {
		b.WriteString(strings.Join(wantLines(k), "\n") + "\n")
	}
	return b.String()
}

func wantBlock(head string, s sprout, foot string) []string {
	lines := []string{head + " {"}
	for _, k := range s.kids {
		for _, line := range wantLines(k) {
			lines = append(lines, "  "+line)
		}
	}
	return append(lines, "}"+foot)
}

func wantLines(s sprout) []string {
	e := make([]string, len(s.kids))
	for i, k := range s.kids {
		if k.node.Kind >= impl.NodeInt {
			e[i] = wantExpr(k)
		}
	}
	if s.node.Kind == impl.NodeMacro {
		params := make([]string, len(s.node.Types))
		for i, typ := range s.node.Types {
			params[i] = []string{"int ", "text "}[typ] + string(s.node.Names[i+1])
		}
		return wantBlock(fmt.Sprintf("macro %s(%s)", s.node.Names[0], strings.Join(params, ", ")), s.kids[0], "")
	}
	word := statWords[s.node.Kind-impl.NodeLet]
	area := func(cells []string) string {
		if len(cells) == 2 {
			return cells[0] + ", " + cells[1]
		}
		return cells[0] + ", " + cells[1] + " to " + cells[2] + ", " + cells[3]
	}
	switch s.node.Kind {
	case impl.NodeLet:
		return []string{fmt.Sprintf("let %s = %s;", s.node.Names[0], e[0])}
	case impl.NodeCall:
		return []string{fmt.Sprintf("call %s(%s);", s.node.Names[0], strings.Join(e, ", "))}
	case impl.NodeFor:
		return wantBlock(fmt.Sprintf("for %s = %s to %s", s.node.Names[0], e[0], e[1]), s.kids[2], "")
	case impl.NodeIf:
		return wantIf(s, e[0])
	case impl.NodeGrid, impl.NodeWall, impl.NodeOpen:
		return []string{word + " " + area(e) + ";"}
	case impl.NodeLane, impl.NodeGate, impl.NodeBar:
		return []string{word + " " + area(e) + " " + wayNames[s.node.N] + ";"}
	case impl.NodeZone:
		return []string{"zone " + area(e[:len(e)-1]) + " cost " + e[len(e)-1] + ";"}
	}
	return []string{word + " " + e[0] + " at " + area(e[1:]) + ";"}
}

func wantIf(s sprout, condition string) []string {
	head := "if " + condition
	if len(s.kids) == 2 {
		return wantBlock(head, s.kids[1], "")
	}
	lines := wantBlock(head, s.kids[1], " else")
	var other []string
	if s.kids[2].node.Kind == impl.NodeIf {
		other = wantLines(s.kids[2])
		other[0] = " " + other[0]
	} else {
		other = wantBlock("", s.kids[2], "")
	}
	lines[len(lines)-1] += other[0]
	return append(lines, other[1:]...)
}

func wantExpr(s sprout) string {
	paren := func(yes bool, k sprout) string {
		if yes {
			return "(" + wantExpr(k) + ")"
		}
		return wantExpr(k)
	}
	switch s.node.Kind {
	case impl.NodeInt:
		return strconv.Itoa(s.node.N)
	case impl.NodeText:
		return string(impl.QuoteText(s.node.Text))
	case impl.NodeBool:
		return []string{"false", "true"}[s.node.N]
	case impl.NodeVar:
		return string(s.node.Names[0])
	case impl.NodeNot:
		return "!" + paren(s.kids[0].node.Kind == impl.NodeBin, s.kids[0])
	case impl.NodeNeg:
		return "-" + paren(s.kids[0].node.Kind == impl.NodeBin, s.kids[0])
	}
	left := paren(inParentheses(s.node.N, s.kids[0], true), s.kids[0])
	right := paren(inParentheses(s.node.N, s.kids[1], false), s.kids[1])
	return left + " " + operatorSigns[s.node.N] + " " + right
}

// sower makes trees, the same ones each time.
type sower struct{ r *rand.Rand }

func newSower(seed int64) sower { return sower{rand.New(rand.NewSource(seed))} }

func (w sower) name() string {
	all := []string{"a", "b", "_", "x1", "Grid", "lets", "to_", "n0", strings.Repeat("long", 7) + "er"}
	return all[w.r.Intn(len(all))]
}

func (w sower) text() string {
	all := []string{"", "a", "å€😀", "\"\\", "\n\x00\x7f\t", "//", "/*", strings.Repeat("å", 30), "true", "}"}
	return all[w.r.Intn(len(all))]
}

func (w sower) expr(deep int) sprout {
	pick := w.r.Intn(10)
	if deep <= 0 {
		pick = 6 + w.r.Intn(4)
	}
	switch pick {
	case 0, 1, 2, 3:
		return bin(w.r.Intn(14), w.expr(deep-1), w.expr(deep-1))
	case 4:
		return not(w.expr(deep - 1))
	case 5:
		return neg(w.expr(deep - 1))
	case 6:
		return number([]int{0, 1, 7, 42, 99999}[w.r.Intn(5)])
	case 7:
		return quoted(w.text())
	case 8:
		return pointed(impl.NodeBool, w.r.Intn(2))
	}
	return variable(w.name())
}

func (w sower) exprs(n, deep int) []sprout {
	var out []sprout
	for range n {
		out = append(out, w.expr(w.r.Intn(deep+1)))
	}
	return out
}

func (w sower) block(deep int) sprout {
	b := block()
	for range w.r.Intn(3) {
		b.kids = append(b.kids, w.stat(deep-1))
	}
	return b
}

func (w sower) stat(deep int) sprout {
	k := impl.NodeLet + w.r.Intn(13)
	if deep <= 0 && (k == impl.NodeFor || k == impl.NodeIf) {
		k = impl.NodeWall
	}
	s := kind(k)
	switch k {
	case impl.NodeLet:
		return let(w.name(), w.expr(4))
	case impl.NodeCall:
		return named(k, w.name(), w.exprs(w.r.Intn(4), 2)...)
	case impl.NodeFor:
		return named(k, w.name(), append(w.exprs(2, 2), w.block(deep))...)
	case impl.NodeIf:
		return w.branch(deep)
	case impl.NodeGrid:
		s.kids = w.exprs(2, 2)
	case impl.NodeWall, impl.NodeOpen:
		s.kids = w.exprs(2+2*w.r.Intn(2), 2)
	case impl.NodeLane:
		s.kids = w.exprs(2+2*w.r.Intn(2), 2)
		s.node.N = w.r.Intn(4)
	case impl.NodeGate, impl.NodeBar:
		s.kids = w.exprs(2, 2)
		s.node.N = w.r.Intn(4)
	case impl.NodeZone:
		s.kids = w.exprs(3+2*w.r.Intn(2), 2)
	default:
		s.kids = w.exprs(3, 2)
	}
	return s
}

func (w sower) branch(deep int) sprout {
	s := kind(impl.NodeIf, w.expr(2), w.block(deep))
	switch w.r.Intn(3) {
	case 0:
		s.kids = append(s.kids, w.block(deep))
	case 1:
		s.kids = append(s.kids, w.branch(deep-1))
	}
	return s
}

func (w sower) program(most int) sprout {
	p := program()
	for range w.r.Intn(most + 1) {
		if w.r.Intn(4) > 0 {
			p.kids = append(p.kids, w.stat(3))
			continue
		}
		var params []string
		var types []int
		for range w.r.Intn(4) {
			params = append(params, w.name())
			types = append(types, w.r.Intn(2))
		}
		p.kids = append(p.kids, macro(w.name(), params, types, w.block(3)))
	}
	return p
}

// scribe writes a tree as some source that means it, and notes the place of each node.
type scribe struct {
	r      *rand.Rand
	src    []byte
	places []int
}

// put writes a token with blanks, comments or, where that can be, nothing before it.
func (w *scribe) put(token string) int {
	gaps := []string{" ", "\n", "\t", "\r", "  ", " // }\n", " /* ; */", " /**/ "}
	if len(w.src) == 0 || !runForm.Match(w.src[len(w.src)-1:]) || !runForm.MatchString(token) {
		gaps = append(gaps, "", "", "", "", "", "", "", "")
	}
	w.src = append(w.src, gaps[w.r.Intn(len(gaps))]...)
	at := len(w.src)
	w.src = append(w.src, token...)
	return at
}

func (w *scribe) node() int {
	w.places = append(w.places, 0)
	return len(w.places) - 1
}

func (w *scribe) program(s sprout) {
	w.node()
	for _, k := range s.kids {
		w.stat(k)
	}
}

func (w *scribe) block(s sprout) {
	i := w.node()
	w.places[i] = w.put("{")
	for _, k := range s.kids {
		w.stat(k)
	}
	w.put("}")
}

// stat writes a statement's tokens by a pattern: 'e' an expression, 'b' a block (or an if), 'n' the name, 'w' the way,
// 'l' the list of expressions, 'p' the list of parameters; others stand for themselves.
func (w *scribe) stat(s sprout) {
	i := w.node()
	word := "macro"
	if s.node.Kind != impl.NodeMacro {
		word = statWords[s.node.Kind-impl.NodeLet]
	}
	w.places[i] = w.put(word)
	kids := s.kids
	for _, piece := range strings.Fields(pattern(s)) {
		switch piece {
		case "e":
			w.expr(kids[0], false)
			kids = kids[1:]
		case "b":
			if kids[0].node.Kind == impl.NodeIf {
				w.stat(kids[0])
			} else {
				w.block(kids[0])
			}
			kids = kids[1:]
		case "n":
			w.put(string(s.node.Names[0]))
		case "w":
			w.put(wayNames[s.node.N])
		case "l":
			for j, k := range kids {
				if j > 0 {
					w.put(",")
				}
				w.expr(k, false)
			}
		case "p":
			for j, typ := range s.node.Types {
				if j > 0 {
					w.put(",")
				}
				w.put([]string{"int", "text"}[typ])
				w.put(string(s.node.Names[j+1]))
			}
		default:
			w.put(piece)
		}
	}
}

func pattern(s sprout) string {
	area := "e , e"
	if len(s.kids) > 3 {
		area = "e , e to e , e"
	}
	switch s.node.Kind {
	case impl.NodeMacro:
		return "n ( p ) b"
	case impl.NodeLet:
		return "n = e ;"
	case impl.NodeCall:
		return "n ( l ) ;"
	case impl.NodeFor:
		return "n = e to e b"
	case impl.NodeIf:
		return []string{"e b", "e b else b"}[len(s.kids)-2]
	case impl.NodeGrid, impl.NodeWall, impl.NodeOpen:
		return area + " ;"
	case impl.NodeLane, impl.NodeGate, impl.NodeBar:
		return area + " w ;"
	case impl.NodeZone:
		return area + " cost e ;"
	}
	return "e at e , e ;"
}

func (w *scribe) expr(s sprout, parentheses bool) {
	if parentheses || w.r.Intn(12) == 0 {
		w.put("(")
		w.expr(s, false)
		w.put(")")
		return
	}
	i := w.node()
	switch s.node.Kind {
	case impl.NodeInt:
		w.places[i] = w.put(strings.Repeat("0", w.r.Intn(2)) + strconv.Itoa(s.node.N))
	case impl.NodeText:
		w.places[i] = w.put(w.literal(s.node.Text))
	case impl.NodeBool:
		w.places[i] = w.put([]string{"false", "true"}[s.node.N])
	case impl.NodeVar:
		w.places[i] = w.put(string(s.node.Names[0]))
	case impl.NodeNot, impl.NodeNeg:
		w.places[i] = w.put([]string{"!", "-"}[s.node.Kind-impl.NodeNot])
		w.expr(s.kids[0], s.kids[0].node.Kind == impl.NodeBin)
	default:
		w.expr(s.kids[0], inParentheses(s.node.N, s.kids[0], true))
		w.places[i] = w.put(operatorSigns[s.node.N])
		w.expr(s.kids[1], inParentheses(s.node.N, s.kids[1], false))
	}
}

func (w *scribe) literal(text []byte) string {
	var b strings.Builder
	b.WriteByte('"')
	for _, r := range string(text) {
		switch {
		case r == '\n' || r == '"' || r == '\\' || w.r.Intn(8) == 0:
			fmt.Fprintf(&b, "\\u{%0*X}", 1+w.r.Intn(6), r)
		default:
			b.WriteRune(r)
		}
	}
	b.WriteByte('"')
	return b.String()
}

// childForms: for each kind which children it may have, one letter a child: m a macro, b a block, i a NodeIf, s another
// statement, e an expression.
var childForms = compileAll(
	"[mis]*", "b", "[is]*", "e", "e{0,10}", "eeb", "eb[bi]?", "ee", "(ee){1,2}", "(ee){1,2}", "(ee){1,2}", "ee", "ee",
	"eee(ee)?", "eee", "eee", "", "", "", "", "ee", "e", "e",
)

func compileAll(forms ...string) []*regexp.Regexp {
	var out []*regexp.Regexp
	for _, f := range forms {
		out = append(out, regexp.MustCompile("^(?:"+f+")$"))
	}
	return out
}

func letter(kind int) string {
	if kind < 0 || kind >= len(childForms) {
		return "?"
	}
	return "?mbsssissssssssseeeeeee"[kind : kind+1]
}

// wantValid puts the nodes together from behind, each taking its children from a row of what is complete.
func wantValid(t []impl.Node) bool {
	if len(t) == 0 || len(t) > 4000 {
		return false
	}
	type built struct {
		kind, deep int
	}
	var row []built
	for i := len(t) - 1; i >= 0; i-- {
		n := t[i]
		if n.Count < 0 || n.Count > len(row) || !wantFields(n) {
			return false
		}
		letters, deep := "", 0
		for _, b := range row[len(row)-n.Count:] {
			letters = letter(b.kind) + letters
			deep = max(deep, b.deep)
		}
		if !childForms[n.Kind].MatchString(letters) {
			return false
		}
		row = append(row[:len(row)-n.Count], built{n.Kind, deep + 1})
	}
	return len(row) == 1 && row[0].kind == 0 && row[0].deep <= 60
}

var nameForm = regexp.MustCompile(`^[A-Za-z_][A-Za-z_0-9]{0,29}$`)

func wantFields(n impl.Node) bool {
	if n.Kind < 0 || n.Kind > 22 {
		return false
	}
	most := map[int]int{10: 3, 11: 3, 12: 3, 16: 99999, 18: 1, 20: 13}[n.Kind]
	count := map[int]int{3: 1, 4: 1, 5: 1, 19: 1, 1: 1 + len(n.Types)}[n.Kind]
	if n.N < 0 || n.N > most || len(n.Names) != count {
		return false
	}
	for _, s := range n.Names {
		if !nameForm.Match(s) || strings.Contains(" "+words+" ", " "+string(s)+" ") {
			return false
		}
	}
	for _, typ := range n.Types {
		if n.Kind != 1 || typ < 0 || typ > 1 {
			return false
		}
	}
	code, _ := wantCheck(n.Text)
	return len(n.Types) <= 10 && (len(n.Text) == 0 || n.Kind == 17 && len(n.Text) <= 60 && code == impl.CodeOK)
}
