package tests

import (
	"strconv"
	"strings"
	"unicode/utf8"

	"loop.example/s02126/impl"
)

// restater writes what a layout has in other words each time: with sums for numbers, in blocks, loops and macros, in
// another order, and among statements that change nothing.
type restater struct {
	surveyor
	macros []sprout
}

func newRestater(seed int64) *restater { return &restater{surveyor: newSurveyor(seed)} }

// source answers a text that has this layout.
func (w *restater) source(l impl.Layout) string {
	decls := wantDecls(l)
	grid, rest := decls[0], decls[1:]
	w.r.Shuffle(len(rest), func(i, j int) { rest[i], rest[j] = rest[j], rest[i] })
	stats := []sprout{w.wrapped(w.statement(grid))}
	for _, d := range rest {
		stats = append(stats, w.idle(l)...)
		stats = append(stats, w.wrapped(w.statement(d)))
	}
	p := program(append(stats, w.idle(l)...)...)
	for _, m := range w.macros {
		at := w.r.Intn(len(p.kids) + 1)
		p.kids = append(p.kids[:at:at], append([]sprout{m}, p.kids[at:]...)...)
	}
	s := &scribe{r: w.r}
	s.program(p)
	return string(s.src)
}

func (w *restater) statement(d impl.Decl) sprout {
	s := pointed(d.Kind, d.Dir)
	if isTargetDecl(d) {
		s.kids = append(s.kids, w.text(string(d.Name)))
	}
	s.kids = append(s.kids, w.number(d.X1), w.number(d.Y1))
	if strings.Contains(declHas[d.Kind], "area") && w.oneOf(4) {
		s.kids = append(s.kids, w.number(d.X2), w.number(d.Y2))
	}
	if d.Kind == impl.NodeZone {
		s.kids = append(s.kids, w.number(d.Cost))
	}
	return s
}

func (w *restater) number(n int) sprout {
	more := w.r.Intn(100)
	switch w.r.Intn(12) {
	case 0:
		return bin(impl.OpSub, number(n+more), number(more))
	case 1:
		return bin(impl.OpDiv, number(n*(1+more)+more), number(1+more))
	case 2:
		return neg(neg(number(n)))
	case 3:
		return bin(impl.OpAdd, number(n), bin(impl.OpMod, number(more), number(1)))
	case 4:
		return bin(impl.OpMod, bin(impl.OpAdd, number(n), bin(impl.OpMul, number(more), number(50))), number(50))
	}
	return number(n)
}

// text cuts a name in two between characters; digits may stand there as a number.
func (w *restater) text(name string) sprout {
	if n, err := strconv.Atoi(name); err == nil && strconv.Itoa(n) == name && n >= 0 && n <= 99999 {
		return bin(impl.OpCat, number(n), quoted(""))
	}
	at := w.r.Intn(len(name) + 1)
	if w.oneOf(2) || at < len(name) && !utf8.RuneStart(name[at]) {
		return quoted(name)
	}
	return bin(impl.OpCat, w.text(name[:at]), quoted(name[at:]))
}

// wrapped puts a statement where it is carried out once.
func (w *restater) wrapped(s sprout) sprout {
	yes, no := pointed(impl.NodeBool, 1), pointed(impl.NodeBool, 0)
	never := block(kind(impl.NodeGrid, number(1), number(1)))
	switch w.r.Intn(12) {
	case 0:
		return kind(impl.NodeIf, bin(impl.OpLt, number(1), number(2)), block(s))
	case 1:
		return kind(impl.NodeIf, no, never, block(w.wrapped(s)))
	case 2:
		return kind(impl.NodeIf, no, never, kind(impl.NodeIf, not(no), block(s), never))
	case 3:
		return w.loop(s)
	case 4:
		return w.call(s)
	case 5:
		return kind(impl.NodeIf, bin(impl.OpOr, yes, bin(impl.OpEq, bin(impl.OpDiv, number(1), number(0)), number(1))), block(s))
	case 6:
		return kind(impl.NodeIf, yes, block(let("v", s.kids[0]), sprout{s.node, append([]sprout{variable("v")}, s.kids[1:]...)}))
	}
	return s
}

// loop goes from the last number of a statement to itself.
func (w *restater) loop(s sprout) sprout {
	last := len(s.kids) - 1
	e := s.kids[last]
	inner := sprout{s.node, append(append([]sprout{}, s.kids[:last]...), variable("i"))}
	return named(impl.NodeFor, "i", e, e, block(inner))
}

// call takes the statement's expressions as arguments, and hands them on to a macro.
func (w *restater) call(s sprout) sprout {
	name := "m" + strconv.Itoa(len(w.macros))
	var params []string
	var types []int
	inner := sprout{node: s.node}
	for i := range s.kids {
		param := "p" + strconv.Itoa(i)
		params, types = append(params, param), append(types, impl.TypeInt)
		inner.kids = append(inner.kids, variable(param))
	}
	if s.node.Kind == impl.NodeStation || s.node.Kind == impl.NodeCharger {
		types[0] = impl.TypeText
	}
	w.macros = append(w.macros, macro(name, params, types, block(inner)))
	return named(impl.NodeCall, name, s.kids...)
}

// idle answers statements that change nothing wherever they stand behind the grid.
func (w *restater) idle(l impl.Layout) []sprout {
	if !w.oneOf(5) {
		return nil
	}
	cell := w.r.Intn(len(l.Cost))
	at := []sprout{number(cell % l.W), number(cell / l.W)}
	switch w.r.Intn(6) {
	case 0:
		return []sprout{let("a", number(7))}
	case 1:
		return []sprout{named(impl.NodeFor, "i", number(1), number(0), block(kind(impl.NodeGrid, number(0), number(0))))}
	case 2:
		return []sprout{kind(impl.NodeIf, pointed(impl.NodeBool, 0), block(kind(impl.NodeWall, at...)))}
	case 3:
		if l.Cost[cell] != 0 {
			return []sprout{kind(impl.NodeOpen, at...)}
		}
	case 4:
		if l.Cost[cell] == 1 {
			return []sprout{kind(impl.NodeZone, append(at, number(1))...)}
		}
	case 5:
		// a way that leads nowhere, or onto a wall
		for way := range 4 {
			next := spot{cell % l.W, cell / l.W}.toward(way)
			if !next.isWithin(l.W, l.H) || l.Cost[next.y*l.W+next.x] == 0 {
				return []sprout{pointed(impl.NodeBar, way, at...)}
			}
		}
	}
	return nil
}
