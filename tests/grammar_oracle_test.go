package tests

import "strings"

// grammarText is the grammar of the document without its brackets, one form a line. NAME, INT and TEXT stand for kinds of
// tokens; what stands on no left side stands for itself.
const grammarText = `
start -> program
program ->
program -> program macro
program -> program stat
macro -> macro NAME ( params ) block
params ->
params -> paramrow
paramrow -> param
paramrow -> paramrow , param
param -> int NAME
param -> text NAME
block -> { stats }
stats ->
stats -> stats stat
stat -> let NAME = expr ;
stat -> call NAME ( args ) ;
args ->
args -> argrow
argrow -> expr
argrow -> argrow , expr
stat -> for NAME = expr to expr block
stat -> condition
condition -> if expr block
condition -> if expr block else block
condition -> if expr block else condition
stat -> grid cell ;
stat -> wall area ;
stat -> open area ;
stat -> lane area way ;
stat -> gate cell way ;
stat -> bar cell way ;
stat -> zone area cost expr ;
stat -> station expr at cell ;
stat -> charger expr at cell ;
cell -> expr , expr
area -> cell
area -> cell to cell
way -> north
way -> east
way -> south
way -> west
expr -> unary
expr -> expr operator unary
operator -> ||
operator -> &&
operator -> ==
operator -> !=
operator -> <
operator -> <=
operator -> >
operator -> >=
operator -> &
operator -> +
operator -> -
operator -> *
operator -> /
operator -> %
unary -> ! unary
unary -> - unary
unary -> INT
unary -> TEXT
unary -> true
unary -> false
unary -> NAME
unary -> ( expr )
`

type grammarRule struct {
	left  string
	right []string
}

// grammarRules writes what stands on a left side in angles, to tell the form macro from the word.
func grammarRules() []grammarRule {
	var rules []grammarRule
	left := map[string]bool{}
	for _, line := range strings.Split(strings.TrimSpace(grammarText), "\n") {
		head, tail, _ := strings.Cut(line, " ->")
		rules = append(rules, grammarRule{head, strings.Fields(tail)})
		left[head] = true
	}
	for i, r := range rules {
		for j, s := range r.right {
			word := s == "macro" && r.left == "macro"
			if left[s] && !word {
				r.right[j] = "<" + s + ">"
			}
		}
		rules[i].left = "<" + r.left + ">"
	}
	return rules
}

// chart is Earley's, of the tokens that were read: each set has the forms that may be under way there. As all forms can
// be completed, a row of tokens can go on exactly if its last set has one.
type chart struct {
	rules []grammarRule
	sets  [][]underway
}

type underway struct{ rule, dot, origin int }

func newChart() chart {
	c := chart{rules: grammarRules(), sets: [][]underway{{{}}}}
	c.close()
	return c
}

func (c chart) after(u underway) string {
	if right := c.rules[u.rule].right; u.dot < len(right) {
		return right[u.dot]
	}
	return ""
}

// close adds to the last set what begins or is completed there, until nothing is new.
func (c chart) close() {
	last := len(c.sets) - 1
	seen := map[underway]bool{}
	for _, u := range c.sets[last] {
		seen[u] = true
	}
	add := func(u underway) bool {
		if seen[u] {
			return false
		}
		seen[u] = true
		c.sets[last] = append(c.sets[last], u)
		return true
	}
	for again := true; again; {
		again = false
		for i := 0; i < len(c.sets[last]); i++ {
			u := c.sets[last][i]
			next := c.after(u)
			if next == "" {
				for _, v := range c.sets[u.origin] {
					if c.after(v) == c.rules[u.rule].left {
						again = add(underway{v.rule, v.dot + 1, v.origin}) || again
					}
				}
				continue
			}
			for r := range c.rules {
				if c.rules[r].left == next {
					again = add(underway{r, 0, last}) || again
				}
			}
		}
	}
}

// next tells which tokens can come behind those that were read.
func (c chart) next() map[string]bool {
	out := map[string]bool{}
	for _, u := range c.sets[len(c.sets)-1] {
		if s := c.after(u); s != "" && !isNonterminal(s) {
			out[s] = true
		}
	}
	return out
}

func isNonterminal(s string) bool {
	return len(s) > 2 && s[0] == '<' && s[len(s)-1] == '>'
}

// read answers the chart with one more token; it must be one of next.
func (c chart) read(token string) chart {
	var set []underway
	for _, u := range c.sets[len(c.sets)-1] {
		if c.after(u) == token {
			set = append(set, underway{u.rule, u.dot + 1, u.origin})
		}
	}
	sets := append(c.sets[:len(c.sets):len(c.sets)], set)
	grown := chart{c.rules, sets}
	grown.close()
	return grown
}

// complete tells whether the tokens are a program.
func (c chart) complete() bool {
	for _, u := range c.sets[len(c.sets)-1] {
		if u.rule == 0 && u.dot == 1 {
			return true
		}
	}
	return false
}
