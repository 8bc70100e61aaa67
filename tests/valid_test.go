package tests

import (
	"math"
	"slices"
	"strings"
	"testing"

	"loop.example/s02126/impl"
)

func isValid(t *testing.T, what string, tree []impl.Node, want bool) {
	t.Helper()
	if wantValid(tree) != want {
		t.Fatalf("%s: the test has it wrong", what)
	}
	if got := impl.ValidTree(tree); got != want {
		t.Errorf("%s: %v", what, got)
	}
	if text := impl.PrintTree(tree); !want && len(text) != 0 {
		t.Errorf("%s: %q", what, text)
	}
}

func good(t *testing.T, what string, tree []impl.Node) {
	t.Helper()
	isValid(t, what, tree, true)
}

func bad(t *testing.T, what string, tree []impl.Node) {
	t.Helper()
	isValid(t, what, tree, false)
}

func TestValidPrograms(t *testing.T) {
	good(t, "an empty program", []impl.Node{{}})
	good(t, "empty lists", []impl.Node{{Text: []byte{}, Names: [][]byte{}, Types: []int{}}})
	bad(t, "nil", nil)
	bad(t, "no nodes", []impl.Node{})
	for k := 1; k < 25; k++ {
		bad(t, "another kind first", []impl.Node{{Kind: k}})
		bad(t, "another kind first", []impl.Node{{Kind: -k}})
		bad(t, "one behind", []impl.Node{{}, {Kind: k}})
	}
	bad(t, "two programs", []impl.Node{{}, {}})
	bad(t, "a program within", []impl.Node{{Count: 1}, {}})
	bad(t, "only a statement", kind(impl.NodeGrid, a, b).flat())
	bad(t, "a let first", let("x", a).flat())
	bad(t, "a program in a block", program(kind(impl.NodeIf, a, block(program()))).flat())
	bad(t, "a macro in a block", program(kind(impl.NodeIf, a, block(macro("m", nil, nil, block())))).flat())
	bad(t, "a macro in a macro", program(macro("m", nil, nil, block(macro("m", nil, nil, block())))).flat())
	bad(t, "a block in a block", program(kind(impl.NodeIf, a, block(block()))).flat())
	bad(t, "a block at the top", program(block()).flat())
	bad(t, "an expression at the top", program(a).flat())
	for _, n := range []int{-1, 1, 2, 4000, math.MaxInt32, math.MinInt32, math.MaxInt, math.MinInt} {
		bad(t, "a Count without nodes", []impl.Node{{Count: n}})
		if n != 1 {
			bad(t, "a Count beyond", append([]impl.Node{{Count: n}}, kind(impl.NodeGrid, a, b).flat()...))
		}
	}
}

// Every kind with every number of children up to 12, of every kind of child.
func TestValidChildren(t *testing.T) {
	child := []sprout{
		program(), macro("m", nil, nil, block()), block(), let("x", a), named(impl.NodeCall, "f"), named(impl.NodeFor, "i", a, b, block()),
		kind(impl.NodeIf, a, block()), kind(impl.NodeGrid, a, b), kind(impl.NodeWall, a, b), kind(impl.NodeOpen, a, b), pointed(impl.NodeLane, 1, a, b),
		pointed(impl.NodeGate, 1, a, b), pointed(impl.NodeBar, 2, a, b), kind(impl.NodeZone, a, b, c), kind(impl.NodeStation, a, b, c),
		kind(impl.NodeCharger, a, b, c), number(1), quoted("s"), pointed(impl.NodeBool, 1), a, bin(impl.OpAdd, a, b), not(a), neg(a),
	}
	rows := [][]sprout{}
	for n := range 13 {
		row := make([]sprout, n)
		for i := range row {
			row[i] = child[16+i%7]
		}
		rows = append(rows, row)
		for i := range row {
			for k := range child {
				changed := slices.Clone(row)
				changed[i] = child[k]
				rows = append(rows, changed)
				if i > 0 {
					changed = slices.Clone(changed)
					changed[i-1] = block()
					rows = append(rows, changed)
				}
			}
		}
	}
	valid := 0
	for k, s := range child {
		for _, row := range rows {
			s.kids = row
			tree := program(s).flat()
			if k >= impl.NodeInt {
				tree = program(let("x", s)).flat()
			} else if k == impl.NodeBlock {
				tree = program(kind(impl.NodeIf, a, s)).flat()
			} else if k == impl.NodeProgram {
				tree = s.flat()
			}
			want := wantValid(tree)
			if want {
				valid++
			}
			if impl.ValidTree(tree) != want {
				t.Fatalf("kind %d with %d children: not %v", k, len(row), want)
			}
		}
	}
	if valid < 300 {
		t.Errorf("only %d are valid", valid)
	}
}

// wholes are valid trees with all kinds of nodes.
func wholes() [][]impl.Node {
	cells := []sprout{a, number(1)}
	return [][]impl.Node{
		program(macro("m", []string{"p", "q"}, []int{0, 1}, block(let("x", quoted("text"))))).flat(),
		program(named(impl.NodeFor, "i", a, b, block(named(impl.NodeCall, "f", a))), kind(impl.NodeIf, pointed(impl.NodeBool, 1), block(), block())).flat(),
		program(kind(impl.NodeGrid, cells...), kind(impl.NodeWall, cells...), kind(impl.NodeOpen, cells...), pointed(impl.NodeLane, 3, cells...)).flat(),
		program(pointed(impl.NodeGate, 2, cells...), pointed(impl.NodeBar, 1, cells...), kind(impl.NodeZone, a, b, c)).flat(),
		program(kind(impl.NodeStation, a, b, c), kind(impl.NodeCharger, a, not(b), neg(bin(impl.OpMod, a, c)))).flat(),
	}
}

// TestValidFields puts values into each field of each node of valid trees.
func TestValidFields(t *testing.T) {
	numbers := []int{-1, 0, 1, 2, 3, 4, 13, 14, 22, 23, 99999, 100000, math.MaxInt, math.MinInt, math.MaxInt32, math.MinInt32}
	texts := []string{"", "a", "\x00", "\xff", "\xc0\x80", "\xed\xa0\x80", "å\xc3", strings.Repeat("x", 60), strings.Repeat("x", 61), strings.Repeat("å", 30), strings.Repeat("å", 30) + "x", strings.Repeat("x", 100000)}
	nameLists := [][][]byte{nil, {}, {nil}, names("a"), names("a", "b"), names("a", "b", "c"), names("a", ""), names("a", "b", "c", "d")}
	for _, s := range strings.Fields(words) {
		nameLists = append(nameLists, names(s), names(s+"_"), names("a", s, "b"))
	}
	for _, s := range []string{"", " ", "a ", " a", "a b", "a\n", "1", "1a", "a1", "_", "__", "a-b", "a.", "å", "aå", "\xff", "a\x00", "a//", "/**/a", "a,b", "Z", "Let", "{", strings.Repeat("a", 30), strings.Repeat("a", 31), strings.Repeat("Z_9", 10), strings.Repeat("Z_9", 10) + "_", strings.Repeat("a", 5000), strings.Repeat("a", 5001)} {
		nameLists = append(nameLists, names(s), names("m", s, "q"), names(s, "p", "q"))
	}
	typeLists := [][]int{nil, {}, {0}, {1}, {0, 0}, {1, 1}, {0, 2}, {2, 0}, {0, -1}, {0, 1, 0}, make([]int, 10), make([]int, 11), {math.MaxInt, math.MinInt}}
	for _, whole := range wholes() {
		good(t, "a whole tree", whole)
		for i := range whole {
			try := func(what string, change func(n *impl.Node)) {
				tree := slices.Clone(whole)
				change(&tree[i])
				isValid(t, what, tree, wantValid(tree))
			}
			for _, v := range numbers {
				try("N", func(n *impl.Node) { n.N = v })
				try("Kind", func(n *impl.Node) { n.Kind = v })
				try("Count", func(n *impl.Node) { n.Count = v })
			}
			for k := range 23 {
				try("Kind", func(n *impl.Node) { n.Kind = k })
			}
			for _, s := range texts {
				try("Text", func(n *impl.Node) { n.Text = []byte(s) })
			}
			for _, l := range nameLists {
				try("Names", func(n *impl.Node) { n.Names = l })
			}
			for _, l := range typeLists {
				try("Types", func(n *impl.Node) { n.Types = l })
				try("Types and Names", func(n *impl.Node) {
					n.Types = l
					n.Names = names(strings.Fields("m" + strings.Repeat(" p", len(l)))...)
				})
			}
			bad(t, "cut off", whole[:i])
			out := slices.Delete(slices.Clone(whole), i, i+1)
			isValid(t, "a node taken out", out, wantValid(out))
			twice := slices.Insert(slices.Clone(whole), i, whole[i])
			isValid(t, "a node twice", twice, wantValid(twice))
		}
		bad(t, "one behind", append(slices.Clone(whole), impl.Node{Kind: impl.NodeInt}))
		bad(t, "itself behind", append(slices.Clone(whole), whole...))
	}
}

func TestValidNumbers(t *testing.T) {
	for n := -2; n <= 16; n++ {
		isValid(t, "an operation", program(let("x", bin(n, a, b))).flat(), n >= 0 && n <= 13)
		isValid(t, "a bool", program(let("x", pointed(impl.NodeBool, n))).flat(), n == 0 || n == 1)
		for _, k := range []int{impl.NodeLane, impl.NodeGate, impl.NodeBar} {
			isValid(t, "a way", program(pointed(k, n, a, b)).flat(), n >= 0 && n <= 3)
		}
		isValid(t, "a type", program(macro("m", []string{"p"}, []int{n}, block())).flat(), n == 0 || n == 1)
	}
	for n, want := range map[int]bool{-1: false, 0: true, 99999: true, 100000: false} {
		isValid(t, "a number", program(let("x", number(n))).flat(), want)
	}
	for n := range 14 {
		var params []string
		var args []sprout
		for range n {
			params = append(params, "p")
			args = append(args, a)
		}
		isValid(t, "parameters", program(macro("m", params, make([]int, n), block())).flat(), n <= 10)
		isValid(t, "arguments", program(named(impl.NodeCall, "m", args...)).flat(), n <= 10)
	}
}

func TestValidSizes(t *testing.T) {
	good(t, "4000 nodes", program(calls(3999)...).flat())
	bad(t, "4001 nodes", program(calls(4000)...).flat())
	bad(t, "100001 nodes", program(calls(100000)...).flat())
	good(t, "4000 nodes in a block", program(kind(impl.NodeIf, a, block(calls(3996)...))).flat())
	bad(t, "4001 nodes in a block", program(kind(impl.NodeIf, a, block(calls(3997)...))).flat())
	for n := 50; n < 70; n++ {
		e, left, right := a, a, a
		for range n - 3 {
			e, left, right = neg(e), bin(impl.OpAdd, left, b), bin(impl.OpAdd, b, right)
		}
		isValid(t, "unary ones", program(let("x", e)).flat(), n <= 60)
		isValid(t, "on the left", program(let("x", left)).flat(), n <= 60)
		isValid(t, "on the right", program(let("x", right)).flat(), n <= 60)
		isValid(t, "behind others", program(let("y", a), kind(impl.NodeZone, a, b, e)).flat(), n <= 60)
		s := kind(impl.NodeIf, a, block())
		for range n - 3 {
			s = kind(impl.NodeIf, a, block(), s)
		}
		isValid(t, "else if", program(s).flat(), n <= 60)
	}
	chain := []impl.Node{{Count: 1}, {Kind: impl.NodeLet, Names: names("x"), Count: 1}}
	for range 100000 {
		chain = append(chain, impl.Node{Kind: impl.NodeNeg, Count: 1})
	}
	bad(t, "a chain without an end", chain)
	bad(t, "a chain without an end", chain[:4000])
}

func calls(n int) []sprout {
	var out []sprout
	for range n {
		out = append(out, named(impl.NodeCall, "f"))
	}
	return out
}

// Trees with nodes changed at random: no call panics, and the same are valid as by the table.
func TestValidOfChangedTrees(t *testing.T) {
	valid, not := 0, 0
	for seed := range int64(800) {
		sow := newSower(9000 + seed)
		whole := sow.program(4).flat()
		for range 20 {
			tree := slices.Clone(whole)
			for range 1 + sow.r.Intn(2) {
				i, j := sow.r.Intn(len(tree)), sow.r.Intn(len(tree))
				switch sow.r.Intn(6) {
				case 0:
					tree[i].Kind = sow.r.Intn(24)
				case 1:
					tree[i].Count += sow.r.Intn(3) - 1
				case 2:
					tree[i].N = sow.r.Intn(5) - 1
				case 3:
					tree[i], tree[j] = tree[j], tree[i]
				case 4:
					tree[i].Names = tree[j].Names
				case 5:
					tree = slices.Delete(tree, i, min(i+1+sow.r.Intn(3), len(tree)))
				}
				if len(tree) == 0 {
					break
				}
			}
			want := wantValid(tree)
			if impl.ValidTree(tree) != want {
				t.Fatalf("%v: not %v", tree, want)
			}
			text := impl.PrintTree(tree)
			if want {
				valid++
				thereAndBack(t, tree, text)
			} else if not++; len(text) != 0 {
				t.Fatalf("%v: %q", tree, text)
			}
		}
	}
	if valid < 500 || not < 5000 {
		t.Errorf("%d valid, %d not", valid, not)
	}
}

func TestValidTreeWritesNothing(t *testing.T) {
	for _, whole := range wholes() {
		before := slices.Clone(whole)
		if !impl.ValidTree(whole) || !sameTree(whole, before) {
			t.Errorf("%v", whole)
		}
	}
}
