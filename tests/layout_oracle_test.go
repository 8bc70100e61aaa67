package tests

import (
	"bytes"
	"fmt"
	"slices"
	"strconv"
	"strings"

	"loop.example/s02126/impl"
)

// spot is a cell by its column and row.
type spot struct{ x, y int }

func (s spot) toward(way int) spot {
	switch wayNames[way] {
	case "north":
		s.y--
	case "south":
		s.y++
	case "east":
		s.x++
	case "west":
		s.x--
	}
	return s
}

func (s spot) isWithin(w, h int) bool {
	return 0 <= s.x && s.x < w && 0 <= s.y && s.y < h
}

// spotsOf answers all cells of a grid in their order.
func spotsOf(w, h int) []spot {
	var all []spot
	for y := range h {
		for x := range w {
			all = append(all, spot{x, y})
		}
	}
	return all
}

// leading answers the ways that lead from a spot to another that is no wall.
func leading(l impl.Layout, at spot) []int {
	var ways []int
	for way := range 4 {
		next := at.toward(way)
		if next.isWithin(l.W, l.H) && l.Cost[next.y*l.W+next.x] != 0 {
			ways = append(ways, way)
		}
	}
	return ways
}

// sumsOf answers what some of the ways, or none or all, can come to.
func sumsOf(ways []int) []int {
	sums := []int{0}
	for _, way := range ways {
		for _, sum := range slices.Clone(sums) {
			sums = append(sums, sum+[]int{1, 2, 4, 8}[way])
		}
	}
	return sums
}

func wantValidLayout(l impl.Layout) bool {
	if l.W < 1 || l.W > 40 || l.H < 1 || l.H > 40 || len(l.Cost) != l.W*l.H || len(l.Exits) != l.W*l.H {
		return false
	}
	for _, cost := range l.Cost {
		if cost < 0 || cost > 9 {
			return false
		}
	}
	for cell, at := range spotsOf(l.W, l.H) {
		var ways []int
		if l.Cost[cell] != 0 {
			ways = leading(l, at)
		}
		if !slices.Contains(sumsOf(ways), l.Exits[cell]) {
			return false
		}
	}
	return wantTargets(l)
}

func wantTargets(l impl.Layout) bool {
	var all []string
	cells := map[int]bool{}
	for _, x := range l.Targets {
		if code, _ := wantCheck(x.Name); code != impl.CodeOK || len(x.Name) < 1 || len(x.Name) > 60 {
			return false
		}
		if x.Kind != 0 && x.Kind != 1 || x.Cell < 0 || x.Cell >= len(l.Cost) || l.Cost[x.Cell] == 0 {
			return false
		}
		all = append(all, string(x.Name))
		cells[x.Cell] = true
	}
	sorted := slices.Compact(slices.Sorted(slices.Values(all)))
	return len(all) <= 30 && slices.Equal(all, sorted) && len(cells) == len(all)
}

// declHas names what each kind of declaration has besides its first cell.
var declHas = map[int]string{
	impl.NodeGrid:    "",
	impl.NodeWall:    "area",
	impl.NodeOpen:    "area",
	impl.NodeLane:    "area dir",
	impl.NodeGate:    "dir",
	impl.NodeBar:     "dir",
	impl.NodeZone:    "area cost",
	impl.NodeStation: "name",
	impl.NodeCharger: "name",
}

// isOddDecl tells whether Denote can't take a declaration at all.
func isOddDecl(d impl.Decl) bool {
	has, known := declHas[d.Kind]
	odd := !known
	for _, n := range []int{d.X1, d.Y1, d.X2, d.Y2, d.Cost} {
		odd = odd || n < -1000000 || n > 1000000
	}
	if !strings.Contains(has, "area") {
		odd = odd || d.X1 != d.X2 || d.Y1 != d.Y2
	}
	if !strings.Contains(has, "dir") {
		odd = odd || d.Dir != 0
	}
	if !strings.Contains(has, "cost") {
		odd = odd || d.Cost != 0
	}
	if !strings.Contains(has, "name") {
		odd = odd || len(d.Name) != 0
	}
	code, _ := wantCheck(d.Name)
	return odd || d.Dir < 0 || d.Dir > 3 || len(d.Name) > 60 || code != impl.CodeOK
}

func isTargetDecl(d impl.Decl) bool { return declHas[d.Kind] == "name" }

func covers(d impl.Decl, at spot) bool {
	return (d.X1 <= at.x && at.x <= d.X2 || d.X2 <= at.x && at.x <= d.X1) &&
		(d.Y1 <= at.y && at.y <= d.Y2 || d.Y2 <= at.y && at.y <= d.Y1)
}

// wantFaultOf answers the code of a declaration behind others that have no fault.
func wantFaultOf(before []impl.Decl, d impl.Decl) int {
	if (len(before) == 0) != (d.Kind == impl.NodeGrid) {
		return impl.CodeValue
	}
	if d.Kind == impl.NodeGrid {
		if !(spot{d.X1 - 1, d.Y1 - 1}).isWithin(40, 40) {
			return impl.CodeValue
		}
		return impl.CodeOK
	}
	w, h := before[0].X1, before[0].Y1
	if !(spot{d.X1, d.Y1}).isWithin(w, h) || !(spot{d.X2, d.Y2}).isWithin(w, h) {
		return impl.CodeValue
	}
	if d.Kind == impl.NodeZone && (d.Cost < 1 || d.Cost > 9) {
		return impl.CodeValue
	}
	if !isTargetDecl(d) {
		return impl.CodeOK
	}
	there := 0
	for _, e := range before {
		if isTargetDecl(e) {
			there++
			if bytes.Equal(e.Name, d.Name) || e.X1 == d.X1 && e.Y1 == d.Y1 {
				return impl.CodeValue
			}
		}
	}
	if len(d.Name) == 0 {
		return impl.CodeValue
	}
	if there == 30 {
		return impl.CodeLimit
	}
	return impl.CodeOK
}

// wantDenote looks for each cell at the last declaration that says something of it.
func wantDenote(decls []impl.Decl) (impl.Layout, int, int) {
	if len(decls) > 9000 || slices.ContainsFunc(decls, isOddDecl) {
		return impl.Layout{}, impl.CodeBad, 0
	}
	for i, d := range decls {
		if code := wantFaultOf(decls[:i], d); code != impl.CodeOK {
			return impl.Layout{}, code, i
		}
	}
	if len(decls) == 0 {
		return impl.Layout{}, impl.CodeValue, 0
	}
	for i, d := range decls {
		if isTargetDecl(d) && isWalled(decls, spot{d.X1, d.Y1}) {
			return impl.Layout{}, impl.CodeValue, i
		}
	}
	return wantLayout(decls), impl.CodeOK, 0
}

func latest(decls []impl.Decl, at spot, asked func(impl.Decl) bool) impl.Decl {
	for _, d := range slices.Backward(decls) {
		if asked(d) && covers(d, at) {
			return d
		}
	}
	return impl.Decl{}
}

func isWalled(decls []impl.Decl, at spot) bool {
	return latest(decls, at, func(d impl.Decl) bool {
		return d.Kind == impl.NodeWall || d.Kind == impl.NodeOpen
	}).Kind == impl.NodeWall
}

func costOf(decls []impl.Decl, at spot) int {
	return max(1, latest(decls, at, func(d impl.Decl) bool { return d.Kind == impl.NodeZone }).Cost)
}

func canBeLeft(decls []impl.Decl, at spot, way int) bool {
	d := latest(decls, at, func(d impl.Decl) bool {
		return d.Kind == impl.NodeLane || (d.Kind == impl.NodeGate || d.Kind == impl.NodeBar) && d.Dir == way
	})
	return d.Kind != impl.NodeBar && (d.Kind != impl.NodeLane || d.Dir == way)
}

func wantLayout(decls []impl.Decl) impl.Layout {
	l := impl.Layout{W: decls[0].X1, H: decls[0].Y1}
	for _, at := range spotsOf(l.W, l.H) {
		cost := 0
		if !isWalled(decls, at) {
			cost = costOf(decls, at)
		}
		l.Cost = append(l.Cost, cost)
	}
	for cell, at := range spotsOf(l.W, l.H) {
		exits := 0
		for _, way := range leading(l, at) {
			if l.Cost[cell] != 0 && canBeLeft(decls, at, way) {
				exits += []int{1, 2, 4, 8}[way]
			}
		}
		l.Exits = append(l.Exits, exits)
	}
	named := map[string]impl.Target{}
	var names []string
	for _, d := range decls {
		if isTargetDecl(d) {
			named[string(d.Name)] = impl.Target{Name: d.Name, Kind: map[int]int{impl.NodeStation: 0, impl.NodeCharger: 1}[d.Kind], Cell: d.Y1*l.W + d.X1}
			names = append(names, string(d.Name))
		}
	}
	slices.Sort(names)
	for _, name := range names {
		l.Targets = append(l.Targets, named[name])
	}
	return l
}

func wantDecls(l impl.Layout) []impl.Decl {
	if !wantValidLayout(l) {
		return nil
	}
	decls := []impl.Decl{{Kind: impl.NodeGrid, X1: l.W, Y1: l.H, X2: l.W, Y2: l.H}}
	for cell, at := range spotsOf(l.W, l.H) {
		one := impl.Decl{X1: at.x, Y1: at.y, X2: at.x, Y2: at.y}
		if l.Cost[cell] == 0 {
			one.Kind = impl.NodeWall
			decls = append(decls, one)
			continue
		}
		if l.Cost[cell] > 1 {
			zone := one
			zone.Kind, zone.Cost = impl.NodeZone, l.Cost[cell]
			decls = append(decls, zone)
		}
		for _, way := range leading(l, at) {
			if l.Exits[cell]/[]int{1, 2, 4, 8}[way]%2 == 0 {
				bar := one
				bar.Kind, bar.Dir = impl.NodeBar, way
				decls = append(decls, bar)
			}
		}
	}
	for _, x := range l.Targets {
		at := spotsOf(l.W, l.H)[x.Cell]
		decls = append(decls, impl.Decl{Kind: []int{14, 15}[x.Kind], X1: at.x, Y1: at.y, X2: at.x, Y2: at.y, Name: x.Name})
	}
	return decls
}

func wantShow(l impl.Layout) string {
	if !wantValidLayout(l) {
		return ""
	}
	var out strings.Builder
	for cell, at := range spotsOf(l.W, l.H) {
		sign := strings.NewReplacer("0", "#", "1", ".").Replace(strconv.Itoa(l.Cost[cell]))
		for _, x := range l.Targets {
			if x.Cell == cell {
				sign = []string{"S", "C"}[x.Kind]
			}
		}
		out.WriteString(sign)
		if at.x == l.W-1 {
			out.WriteString("\n")
		}
	}
	for _, x := range l.Targets {
		at := spotsOf(l.W, l.H)[x.Cell]
		fmt.Fprintf(&out, "%s %s %d %d\n", []string{"station", "charger"}[x.Kind], impl.QuoteText(x.Name), at.x, at.y)
	}
	return out.String()
}

func sameTarget(a, b impl.Target) bool {
	return bytes.Equal(a.Name, b.Name) && a.Kind == b.Kind && a.Cell == b.Cell
}

func sameLayout(a, b impl.Layout) bool {
	return a.W == b.W && a.H == b.H && slices.Equal(a.Cost, b.Cost) && slices.Equal(a.Exits, b.Exits) && slices.EqualFunc(a.Targets, b.Targets, sameTarget)
}

// copyLayout answers the same layout in memory of its own.
func copyLayout(l impl.Layout) impl.Layout {
	l.Cost, l.Exits, l.Targets = slices.Clone(l.Cost), slices.Clone(l.Exits), slices.Clone(l.Targets)
	for i, x := range l.Targets {
		l.Targets[i].Name = slices.Clone(x.Name)
	}
	return l
}

func copyDecls(decls []impl.Decl) []impl.Decl {
	out := slices.Clone(decls)
	for i, d := range out {
		out[i].Name = slices.Clone(d.Name)
	}
	return out
}
