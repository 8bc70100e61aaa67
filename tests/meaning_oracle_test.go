package tests

import (
	"bytes"
	"math/big"
	"slices"

	"loop.example/s02126/impl"
)

// grove is a tree in which one can go outward.
type grove struct {
	nodes  []impl.Node
	parent []int
	kids   [][]int
	types  map[int]byte // of expressions, once they are known
}

func newGrove(t []impl.Node) grove {
	g := grove{t, make([]int, len(t)), make([][]int, len(t)), map[int]byte{}}
	var open []int
	for i := range t {
		for len(open) > 0 && len(g.kids[open[len(open)-1]]) == t[open[len(open)-1]].Count {
			open = open[:len(open)-1]
		}
		if len(open) > 0 {
			up := open[len(open)-1]
			g.parent[i] = up
			g.kids[up] = append(g.kids[up], i)
		}
		open = append(open, i)
	}
	return g
}

func (g grove) isNamed(at, number int, name []byte) bool {
	return bytes.Equal(g.nodes[at].Names[number], name)
}

// binder goes outward from a NodeVar to the node that binds its name, and to the number of the name there; the nearest
// was bound last. It answers 0 if there is none.
func (g grove) binder(at int) (int, int) {
	name := g.nodes[at].Names[0]
	for at > 0 {
		up := g.parent[at]
		switch g.nodes[up].Kind {
		case impl.NodeProgram, impl.NodeBlock:
			for _, k := range slices.Backward(g.kids[up]) {
				if k < at && g.nodes[k].Kind == impl.NodeLet && g.isNamed(k, 0, name) {
					return k, 0
				}
			}
		case impl.NodeFor:
			if at == g.kids[up][2] && g.isNamed(up, 0, name) {
				return up, 0
			}
		case impl.NodeMacro:
			for i := range g.nodes[up].Types {
				if g.isNamed(up, i+1, name) {
					return up, i + 1
				}
			}
			return 0, 0
		}
		at = up
	}
	return 0, 0
}

func (g grove) macro(name []byte) int {
	return slices.IndexFunc(g.nodes, func(n impl.Node) bool {
		return n.Kind == impl.NodeMacro && bytes.Equal(n.Names[0], name)
	})
}

func (g grove) isNameFault(at int) bool {
	n := g.nodes[at]
	switch n.Kind {
	case impl.NodeMacro:
		for i := range n.Types {
			for j := range i {
				if bytes.Equal(n.Names[i+1], n.Names[j+1]) {
					return true
				}
			}
		}
		return g.macro(n.Names[0]) < at
	case impl.NodeCall:
		return g.macro(n.Names[0]) < 0
	case impl.NodeVar:
		by, _ := g.binder(at)
		return by == 0
	}
	return false
}

// What nodes take and give: i an int, t a text, b a bool, ? no type.
var operatorTakes = compileAll("bb", "bb", "ii|tt|bb", "ii|tt|bb", "ii", "ii", "ii", "ii", "[it][it]", "ii", "ii", "ii", "ii", "ii")

const operatorGives = "bbbbbbbbtiiiii"

var kindTakes = compileAll("", "", "", ".", "", "ii", "b", "ii", "i+", "i+", "i+", "ii", "ii", "i+", "tii", "tii", "", "", "", "", "", "b", "i")

func (g grove) takes(at int, given []byte) bool {
	n := g.nodes[at]
	switch n.Kind {
	case impl.NodeBin:
		return operatorTakes[n.N].Match(given)
	case impl.NodeCall:
		var params []byte
		if by := g.macro(n.Names[0]); by > 0 {
			for _, typ := range g.nodes[by].Types {
				params = append(params, "it"[typ])
			}
		}
		return bytes.Equal(given, params)
	}
	return kindTakes[n.Kind].Match(given)
}

func (g grove) typesBelow(at int) []byte {
	var out []byte
	for _, k := range g.kids[at] {
		if g.nodes[k].Kind >= impl.NodeInt {
			out = append(out, g.typeOf(k))
		}
	}
	return out
}

func (g grove) isTypeFault(at int) bool {
	below := g.typesBelow(at)
	return !bytes.ContainsRune(below, '?') && !g.takes(at, below)
}

func (g grove) typeOf(at int) byte {
	if g.types[at] == 0 {
		g.types[at] = g.findType(at)
	}
	return g.types[at]
}

func (g grove) findType(at int) byte {
	n := g.nodes[at]
	if bytes.ContainsRune(g.typesBelow(at), '?') || g.isTypeFault(at) {
		return '?'
	}
	switch n.Kind {
	case impl.NodeBin:
		return operatorGives[n.N]
	case impl.NodeVar:
		by, number := g.binder(at)
		switch {
		case by == 0:
			return '?'
		case g.nodes[by].Kind == impl.NodeLet:
			return g.typeOf(g.kids[by][0])
		case g.nodes[by].Kind == impl.NodeMacro:
			return "it"[g.nodes[by].Types[number-1]]
		}
		return 'i'
	}
	return "itb..bi"[n.Kind-impl.NodeInt]
}

// wantFault is what Check answers, fault by fault as the document defines them.
func wantFault(t []impl.Node) (int, int) {
	if !wantValid(t) {
		return impl.CodeBad, 0
	}
	g := newGrove(t)
	for at := range t {
		if g.isNameFault(at) {
			return impl.CodeName, at
		}
	}
	for at := range t {
		if g.isTypeFault(at) {
			return impl.CodeType, at
		}
	}
	return impl.CodeOK, 0
}

// shrub is a node with what is below it, in which values are put in for variables.
type shrub struct {
	impl.Node
	at    int
	kids  []shrub
	worth any // a *big.Int, a string or a bool
}

func (g grove) shrub(at int) shrub {
	s := shrub{Node: g.nodes[at], at: at}
	for _, k := range g.kids[at] {
		s.kids = append(s.kids, g.shrub(k))
	}
	return s
}

// put answers statements in which a name has its value put in, as far as they do not bind it again.
func put(list []shrub, name []byte, worth any) []shrub {
	out := slices.Clone(list)
	for i, s := range out {
		out[i] = s.put(name, worth)
		if s.Kind == impl.NodeLet && bytes.Equal(s.Names[0], name) {
			break
		}
	}
	return out
}

func (s shrub) put(name []byte, worth any) shrub {
	switch s.Kind {
	case impl.NodeBlock:
		s.kids = put(s.kids, name, worth)
		return s
	case impl.NodeVar:
		if s.worth == nil && bytes.Equal(s.Names[0], name) {
			s.worth = worth
		}
		return s
	}
	s.kids = slices.Clone(s.kids)
	for i, k := range s.kids {
		if s.Kind != impl.NodeFor || i < 2 || !bytes.Equal(s.Names[0], name) {
			s.kids[i] = k.put(name, worth)
		}
	}
	return s
}

// machine carries out statements by putting values in for names.
type machine struct {
	macros map[string]shrub
	steps  int
	calls  int
	decls  []impl.Decl
}

type machineStop struct{ code, node int }

// wantRun is what Expand answers, and the steps that were made.
func wantRun(t []impl.Node) (decls []impl.Decl, code, node, steps int) {
	if code, node := wantFault(t); code != impl.CodeOK {
		return nil, code, node, 0
	}
	m := &machine{macros: map[string]shrub{}}
	defer func() {
		if x := recover(); x != nil {
			stop := x.(machineStop)
			decls, code, node, steps = nil, stop.code, stop.node, m.steps
		}
	}()
	var list []shrub
	for _, s := range newGrove(t).shrub(0).kids {
		if s.Kind == impl.NodeMacro {
			m.macros[string(s.Names[0])] = s
		} else {
			list = append(list, s)
		}
	}
	m.run(list)
	return m.decls, impl.CodeOK, 0, m.steps
}

func (m *machine) limit(reached bool, at int) {
	if reached {
		panic(machineStop{impl.CodeLimit, at})
	}
}

func (m *machine) step(at int) {
	m.limit(m.steps == 10000, at)
	m.steps++
}

func (m *machine) run(list []shrub) {
	for i, s := range list {
		// What is put in from here on stands in a list of its own.
		m.step(s.at)
		if s.Kind == impl.NodeLet {
			rest := put(list[i+1:], s.Names[0], m.work(s.kids[0]))
			m.run(rest)
			return
		}
		m.carryOut(s)
	}
}

func (m *machine) carryOut(s shrub) {
	switch s.Kind {
	case impl.NodeCall:
		args := m.workAll(s.kids)
		m.limit(m.calls == 32, s.at)
		f := m.macros[string(s.Names[0])]
		body := f.kids[0].kids
		for i, arg := range args {
			body = put(body, f.Names[i+1], arg)
		}
		m.calls++
		m.run(body)
		m.calls--
	case impl.NodeFor:
		bounds := m.workAll(s.kids[:2])
		i, last := bounds[0].(*big.Int), bounds[1].(*big.Int)
		for ; i.Cmp(last) <= 0; i = new(big.Int).Add(i, big.NewInt(1)) {
			m.step(s.at)
			m.run(put(s.kids[2].kids, s.Names[0], i))
		}
	case impl.NodeIf:
		if m.work(s.kids[0]).(bool) {
			m.run(s.kids[1].kids)
		} else if len(s.kids) > 2 && s.kids[2].Kind == impl.NodeIf {
			m.run(s.kids[2:])
		} else if len(s.kids) > 2 {
			m.run(s.kids[2].kids)
		}
	default:
		m.declare(s)
	}
}

func (m *machine) declare(s shrub) {
	worths := m.workAll(s.kids)
	m.limit(len(m.decls) == 9000, s.at)
	d := impl.Decl{Kind: s.Kind, Dir: s.N, Node: s.at}
	if s.Kind == impl.NodeStation || s.Kind == impl.NodeCharger {
		d.Name = []byte(worths[0].(string))
		worths = worths[1:]
	}
	var n []int
	for _, w := range worths {
		n = append(n, int(w.(*big.Int).Int64()))
	}
	switch len(n) {
	case 2, 3:
		d.X1, d.Y1, d.X2, d.Y2 = n[0], n[1], n[0], n[1]
	case 4, 5:
		d.X1, d.Y1, d.X2, d.Y2 = n[0], n[1], n[2], n[3]
	}
	if len(n)%2 == 1 {
		d.Cost = n[len(n)-1]
	}
	m.decls = append(m.decls, d)
}

func (m *machine) workAll(list []shrub) []any {
	var out []any
	for _, s := range list {
		out = append(out, m.work(s))
	}
	return out
}

func (m *machine) work(s shrub) any {
	switch s.Kind {
	case impl.NodeInt:
		return big.NewInt(int64(s.N))
	case impl.NodeText:
		return string(s.Text)
	case impl.NodeBool:
		return s.N == 1
	case impl.NodeVar:
		return s.worth
	case impl.NodeNot:
		return !m.work(s.kids[0]).(bool)
	case impl.NodeNeg:
		return new(big.Int).Neg(m.work(s.kids[0]).(*big.Int))
	}
	left := m.work(s.kids[0])
	if s.N == impl.OpOr && left.(bool) || s.N == impl.OpAnd && !left.(bool) {
		return left
	}
	worth := wantWorth(s.N, left, m.work(s.kids[1]))
	if worth == nil {
		panic(machineStop{impl.CodeValue, s.at})
	}
	return worth
}

// wantWorth is what an operation comes to, or nil where that is out of bounds.
func wantWorth(op int, left, right any) any {
	switch op {
	case impl.OpOr:
		return left.(bool) || right.(bool)
	case impl.OpAnd:
		return left.(bool) && right.(bool)
	case impl.OpCat:
		if text := shown(left) + shown(right); len(text) <= 60 {
			return text
		}
		return nil
	}
	a, isNumber := left.(*big.Int)
	if !isNumber {
		return (left == right) == (op == impl.OpEq)
	}
	b := right.(*big.Int)
	if op < impl.OpCat {
		by := a.Cmp(b)
		return []bool{by == 0, by != 0, by < 0, by <= 0, by > 0, by >= 0}[op-impl.OpEq]
	}
	if op >= impl.OpDiv && b.Sign() == 0 {
		return nil
	}
	reckon := []func(z, x, y *big.Int) *big.Int{(*big.Int).Add, (*big.Int).Sub, (*big.Int).Mul, (*big.Int).Quo, (*big.Int).Rem}
	z := reckon[op-impl.OpAdd](new(big.Int), a, b)
	if z.CmpAbs(big.NewInt(1000000)) > 0 {
		return nil
	}
	return z
}

func shown(worth any) string {
	if n, ok := worth.(*big.Int); ok {
		return n.String()
	}
	return worth.(string)
}
