package tests

import (
	"math/rand"
	"slices"
	"strings"

	"loop.example/s02126/impl"
)

// author makes programs that mean something, but for a slip now and then; the same ones each time.
type author struct {
	r      *rand.Rand
	slip   int         // one choice of so many is a slip, none if it is 0
	macros []impl.Node // the heads of all macros
	known  []knownName // what is bound, the latest last
}

type knownName struct {
	name string
	typ  int
}

func newAuthor(seed int64, slip int) *author {
	return &author{r: rand.New(rand.NewSource(seed)), slip: slip}
}

func (w *author) slips() bool { return w.slip > 0 && w.r.Intn(w.slip) == 0 }

func (w *author) oneOf(n int) bool { return w.r.Intn(n) == 0 }

func (w *author) name() string { return pick(w.r, "a", "b", "c", "i", "j") }

func pick[T any](r *rand.Rand, all ...T) T { return all[r.Intn(len(all))] }

func (w *author) visible(typ int) []string {
	latest := map[string]int{}
	for _, k := range w.known {
		latest[k.name] = k.typ
	}
	var out []string
	for _, k := range w.known {
		if latest[k.name] == typ {
			out = append(out, k.name)
		}
	}
	return out
}

func (w *author) expr(typ, deep int) sprout {
	if w.slips() {
		typ = w.r.Intn(3)
	}
	if w.slips() && w.oneOf(3) {
		return variable(w.name())
	}
	if all := w.visible(typ); len(all) > 0 && w.oneOf(3) {
		return variable(pick(w.r, all...))
	}
	if deep <= 0 || w.oneOf(3) {
		return w.leaf(typ)
	}
	switch typ {
	case impl.TypeInt:
		if w.oneOf(6) {
			return neg(w.expr(typ, deep-1))
		}
		return bin(impl.OpAdd+w.r.Intn(5), w.expr(typ, deep-1), w.expr(typ, deep-1))
	case impl.TypeText:
		return bin(impl.OpCat, w.expr(w.r.Intn(2), deep-1), w.expr(w.r.Intn(2), deep-1))
	}
	switch w.r.Intn(4) {
	case 0:
		return not(w.expr(typ, deep-1))
	case 1:
		return bin(w.r.Intn(2), w.expr(typ, deep-1), w.expr(typ, deep-1))
	case 2:
		either := w.r.Intn(3)
		return bin(impl.OpEq+w.r.Intn(2), w.expr(either, deep-1), w.expr(either, deep-1))
	}
	return bin(impl.OpLt+w.r.Intn(4), w.expr(impl.TypeInt, deep-1), w.expr(impl.TypeInt, deep-1))
}

func (w *author) leaf(typ int) sprout {
	switch typ {
	case impl.TypeInt:
		return number(pick(w.r, 0, 1, 1, 2, 2, 3, 3, 4, 5, 6, 7, 8, 9, 10, 1000, 99999))
	case impl.TypeText:
		return quoted(pick(w.r, "", "a", "b", "å", "a", "-1", strings.Repeat("x", 29)))
	}
	return pointed(impl.NodeBool, w.r.Intn(2))
}

func (w *author) ints(n int) []sprout {
	var out []sprout
	for range n {
		out = append(out, w.expr(impl.TypeInt, w.r.Intn(3)))
	}
	return out
}

// block keeps what is bound in it to itself.
func (w *author) block(deep int, bound ...knownName) sprout {
	outside := slices.Clone(w.known)
	w.known = append(w.known, bound...)
	s := block()
	for range w.r.Intn(4) {
		s.kids = append(s.kids, w.stat(deep-1))
	}
	w.known = outside
	return s
}

func (w *author) stat(deep int) sprout {
	choice := w.r.Intn(9)
	if deep <= 0 && choice < 4 {
		choice += 4
	}
	switch choice {
	case 0, 1:
		return w.loop(deep)
	case 2, 3:
		return w.branch(deep)
	case 4, 5:
		typ, name := w.r.Intn(3), w.name()
		s := let(name, w.expr(typ, 3))
		w.known = append(w.known, knownName{name, typ})
		return s
	case 6:
		if len(w.macros) > 0 {
			return w.call()
		}
	}
	return w.declaration()
}

func (w *author) loop(deep int) sprout {
	name := w.name()
	bounds := w.ints(2)
	if !w.oneOf(6) {
		first := w.r.Intn(3)
		bounds = []sprout{number(first), number(max(0, first+w.r.Intn(5)-1))}
	}
	if w.oneOf(4) {
		bounds[0] = neg(bounds[0])
	}
	return named(impl.NodeFor, name, append(bounds, w.block(deep, knownName{name, impl.TypeInt}))...)
}

func (w *author) branch(deep int) sprout {
	s := kind(impl.NodeIf, w.expr(impl.TypeBool, 3), w.block(deep))
	switch w.r.Intn(3) {
	case 0:
		s.kids = append(s.kids, w.block(deep))
	case 1:
		s.kids = append(s.kids, w.branch(deep-1))
	}
	return s
}

func (w *author) call() sprout {
	head := pick(w.r, w.macros...)
	var args []sprout
	for _, typ := range head.Types {
		args = append(args, w.expr(typ, 2))
	}
	if w.slips() {
		args = append(args, number(1))
	}
	if w.slips() && len(args) > 0 {
		args = args[1:]
	}
	s := named(impl.NodeCall, string(head.Names[0]), args...)
	if w.slips() {
		s.node.Names = names(w.name())
	}
	return s
}

func (w *author) declaration() sprout {
	k := impl.NodeGrid + w.r.Intn(9)
	s := kind(k)
	switch k {
	case impl.NodeGrid, impl.NodeGate, impl.NodeBar:
		s.kids = w.ints(2)
	case impl.NodeZone:
		s.kids = w.ints(3 + 2*w.r.Intn(2))
	case impl.NodeStation, impl.NodeCharger:
		s.kids = append([]sprout{w.expr(impl.TypeText, 3)}, w.ints(2)...)
	default:
		s.kids = w.ints(2 + 2*w.r.Intn(2))
	}
	if k == impl.NodeLane || k == impl.NodeGate || k == impl.NodeBar {
		s.node.N = w.r.Intn(4)
	}
	return s
}

func (w *author) head(name string) impl.Node {
	all := []string{"a", "b", "c", "i"}
	w.r.Shuffle(len(all), func(i, j int) { all[i], all[j] = all[j], all[i] })
	params := all[:w.r.Intn(4)]
	if w.slips() {
		params = append(params, params...)
	}
	if w.slips() {
		name = "f"
	}
	n := macro(name, params, nil).node
	for range params {
		n.Types = append(n.Types, w.r.Intn(2))
	}
	return n
}

func (w *author) macro(head impl.Node) sprout {
	outside := w.known
	w.known = nil
	var params []knownName
	for i, typ := range head.Types {
		params = append(params, knownName{string(head.Names[i+1]), typ})
	}
	s := sprout{head, []sprout{w.block(3, params...)}}
	w.known = outside
	return s
}

func (w *author) program() sprout {
	for _, name := range []string{"f", "a", "g"}[:w.r.Intn(4)] {
		w.macros = append(w.macros, w.head(name))
	}
	p := program()
	for _, head := range w.macros {
		for range w.r.Intn(3) {
			p.kids = append(p.kids, w.stat(3))
		}
		p.kids = append(p.kids, w.macro(head))
	}
	for range w.r.Intn(6) {
		p.kids = append(p.kids, w.stat(3))
	}
	return p
}
