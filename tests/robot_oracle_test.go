package tests

import (
	"bytes"
	"fmt"
	"slices"
	"strconv"
	"strings"
	"testing"

	"loop.example/s02126/impl"
)

func wantFind(x impl.Tables, name string) int {
	if wantValidTables(x) {
		for i, target := range x.Targets {
			if string(target.Name) == name {
				return i
			}
		}
	}
	return -1
}

func isTrip(x impl.Tables, target, cell int) bool {
	return wantValidTables(x) && 0 <= target && target < len(x.Targets) && 0 <= cell && cell < x.W*x.H
}

// goOn is a step by tables that are known to be valid.
func goOn(x impl.Tables, target, cell int) (int, int) {
	if x.Targets[target].Cell == cell {
		return cell, impl.CodeEnd
	}
	if x.Dist[target][cell] == -1 {
		return cell, impl.CodeLost
	}
	next := spot{cell % x.W, cell / x.W}.toward(x.Hop[target][cell])
	return next.x + next.y*x.W, impl.CodeOK
}

func wantNext(x impl.Tables, target, cell int) (int, int) {
	if !isTrip(x, target, cell) {
		return 0, impl.CodeBad
	}
	return goOn(x, target, cell)
}

func wantWalk(x impl.Tables, target, cell int) ([]int, int) {
	if !isTrip(x, target, cell) {
		return nil, impl.CodeBad
	}
	if x.Dist[target][cell] == -1 {
		return []int{cell}, impl.CodeLost
	}
	var walk []int
	for cell != x.Targets[target].Cell {
		walk = append(walk, cell)
		cell, _ = goOn(x, target, cell)
	}
	return append(walk, cell), impl.CodeOK
}

func wantValidFleet(x impl.Tables, robots []impl.Robot) bool {
	return wantValidTables(x) && robotsFit(x, robots)
}

// robotsFit leaves aside whether the tables are valid.
func robotsFit(x impl.Tables, robots []impl.Robot) bool {
	for i, r := range robots {
		if r.Cell < 0 || r.Cell > x.W*x.H-1 || r.Target < 0 || r.Target > len(x.Targets)-1 {
			return false
		}
		if r.Moves < 0 || r.Moves > 1000000 || r.Waits < 0 || r.Waits > 1000000 {
			return false
		}
		for _, other := range robots[:i] {
			if other.Cell == r.Cell && !other.Done && !r.Done {
				return false
			}
		}
	}
	return len(robots) <= 30
}

// tickAnew is the document's rule, robot by robot. All others are looked at each time.
func tickAnew(x impl.Tables, robots []impl.Robot) ([]impl.Robot, bool) {
	now := slices.Clone(robots)
	some := false
	for i := range now {
		if now[i].Done {
			continue
		}
		if now[i].Cell == x.Targets[now[i].Target].Cell {
			now[i].Done, some = true, true
			continue
		}
		to, code := goOn(x, now[i].Target, now[i].Cell)
		if code == impl.CodeLost || isStoodOn(now, to) {
			if now[i].Waits != 1000000 {
				now[i].Waits++
			}
			continue
		}
		now[i].Cell, some = to, true
		if now[i].Moves != 1000000 {
			now[i].Moves++
		}
	}
	return now, some
}

func isStoodOn(robots []impl.Robot, cell int) bool {
	for _, r := range robots {
		if r.Cell == cell && !r.Done {
			return true
		}
	}
	return false
}

func areDone(robots []impl.Robot) bool {
	return !slices.ContainsFunc(robots, func(r impl.Robot) bool { return !r.Done })
}

func wantTick(x impl.Tables, robots []impl.Robot) ([]impl.Robot, bool, int) {
	if !wantValidFleet(x, robots) {
		return nil, false, impl.CodeBad
	}
	now, some := tickAnew(x, robots)
	return now, some, impl.CodeOK
}

func wantReport(x impl.Tables, robots []impl.Robot, ticks int) impl.FleetReport {
	if ticks < 0 || ticks > 5000 || !wantValidFleet(x, robots) {
		return impl.FleetReport{Code: impl.CodeBad}
	}
	report := impl.FleetReport{Code: impl.CodeLimit, Robots: robots}
	for !areDone(report.Robots) {
		if report.Ticks == ticks {
			return report
		}
		some := false
		report.Robots, some = tickAnew(x, report.Robots)
		report.Ticks++
		if !some {
			report.Code = impl.CodeStuck
			return report
		}
	}
	report.Code = impl.CodeOK
	return report
}

// fleetFrom reads robots as "1>a, 4>b 2/3!": the cell, the letter of the target, Moves and Waits if one of them is not
// 0, and a ! for one that is Done.
func fleetFrom(t *testing.T, text string) []impl.Robot {
	t.Helper()
	var robots []impl.Robot
	for _, part := range strings.Split(text, ",") {
		part = strings.TrimSpace(part)
		if part == "" {
			continue
		}
		var r impl.Robot
		part, r.Done = strings.CutSuffix(part, "!")
		where, counts, counted := strings.Cut(part, " ")
		cell, letter, ok := strings.Cut(where, ">")
		var err error
		if r.Cell, err = strconv.Atoi(cell); err != nil || !ok || len(letter) != 1 {
			t.Fatalf("the test has a wrong robot: %s", part)
		}
		r.Target = int(letter[0]) - 'a'
		if counted {
			if n, err := fmt.Sscanf(counts, "%d/%d", &r.Moves, &r.Waits); n != 2 || err != nil {
				t.Fatalf("the test has a wrong robot: %s", part)
			}
		}
		robots = append(robots, r)
	}
	return robots
}

func fleetText(robots []impl.Robot) string {
	var all []string
	for _, r := range robots {
		text := fmt.Sprintf("%d>%c", r.Cell, 'a'+r.Target)
		if r.Target < 0 || r.Target > 29 {
			text = fmt.Sprintf("%d>%d", r.Cell, r.Target)
		}
		if r.Moves != 0 || r.Waits != 0 {
			text += fmt.Sprintf(" %d/%d", r.Moves, r.Waits)
		}
		if r.Done {
			text += "!"
		}
		all = append(all, text)
	}
	return strings.Join(all, ", ")
}

func reportText(r impl.FleetReport) string {
	return fmt.Sprintf("%d after %d: %s", r.Code, r.Ticks, fleetText(r.Robots))
}

func sameReport(a, b impl.FleetReport) bool {
	return a.Code == b.Code && a.Ticks == b.Ticks && slices.Equal(a.Robots, b.Robots)
}

// alongPath has a target at the end of a path through cells that are next to each other, and no way from other cells.
func alongPath(w, h int, path []int) ([]int, []int) {
	dist, hop := slices.Repeat([]int{-1}, w*h), slices.Repeat([]int{-1}, w*h)
	for i, cell := range path {
		dist[cell] = len(path) - 1 - i
		if dist[cell] > 0 {
			hop[cell] = slices.IndexFunc([]int{0, 1, 2, 3}, func(way int) bool {
				next := spot{cell % w, cell / w}.toward(way)
				return next.isWithin(w, h) && next.x+next.y*w == path[i+1]
			})
		}
	}
	return dist, hop
}

// pathTables has for each path a target at its end, named a, b, c and so on.
func pathTables(w, h int, paths ...[]int) impl.Tables {
	x := impl.Tables{W: w, H: h}
	for i, path := range paths {
		dist, hop := alongPath(w, h, path)
		x.Targets = append(x.Targets, target(string(rune('a'+i)), i%2, path[len(path)-1]))
		x.Dist, x.Hop = append(x.Dist, dist), append(x.Hop, hop)
	}
	return x
}

// snakePath goes through all cells of a grid, row by row, each row the other way than the one before.
func snakePath(w, h int) []int {
	var path []int
	for y := range h {
		row := span(y*w, y*w+w-1)
		if y%2 == 1 {
			slices.Reverse(row)
		}
		path = append(path, row...)
	}
	return path
}

func reversed(path []int) []int {
	back := slices.Clone(path)
	slices.Reverse(back)
	return back
}

type namedTables struct {
	what   string
	tables impl.Tables
}

// faultyTables breaks each clause of ValidTables once, in tables with the targets a, b and c that are valid but for that.
func faultyTables(t *testing.T) []namedTables {
	t.Helper()
	var all []namedTables
	whole := func() impl.Tables {
		return tablesFrom(t, "S 0 1< 2< / 1^ 2^ 3^", "C 2> 1> 0 / 3^ 2^ -", "S 1v 2v - / 0 1< -")
	}
	tablesGood(t, "as they are", whole())
	add := func(what string, change func(x *impl.Tables)) {
		x := whole()
		change(&x)
		all = append(all, namedTables{what, x})
	}
	add("W of 0", func(x *impl.Tables) { x.W = 0 })
	add("H of 0", func(x *impl.Tables) { x.H = 0 })
	add("both sides less than 0", func(x *impl.Tables) { x.W, x.H = -3, -2 })
	add("another W", func(x *impl.Tables) { x.W = 2 })
	add("another H", func(x *impl.Tables) { x.H = 3 })
	add("W of 41", func(x *impl.Tables) { *x = pathTables(41, 1, span(0, 40), span(40, 0), span(3, 5)) })
	add("H of 41", func(x *impl.Tables) { *x = pathTables(1, 41, span(0, 40), span(40, 0), span(3, 5)) })
	add("31 targets", func(x *impl.Tables) {
		*x = plainTables(8, 4, 31)
		for i := range x.Targets {
			x.Targets[i].Name = []byte(string(rune('a' + i)))
		}
	})
	add("an empty Name", func(x *impl.Tables) { x.Targets[0].Name = nil })
	add("a Name that is not well-formed", func(x *impl.Tables) { x.Targets[2].Name = []byte("c\xff") })
	add("a Name of 61 bytes", func(x *impl.Tables) { x.Targets[2].Name = bytes.Repeat([]byte("c"), 61) })
	add("Names that descend", func(x *impl.Tables) { x.Targets[0].Name, x.Targets[1].Name = []byte("b"), []byte("a") })
	add("a Name twice", func(x *impl.Tables) { x.Targets[1].Name = []byte("a") })
	add("a Kind of -1", func(x *impl.Tables) { x.Targets[1].Kind = -1 })
	add("a Kind of 2", func(x *impl.Tables) { x.Targets[1].Kind = 2 })
	add("a Cell of -1", func(x *impl.Tables) { x.Targets[2].Cell = -1 })
	add("a Cell beyond the grid", func(x *impl.Tables) { x.Targets[2].Cell = 6 })
	add("two on one Cell", func(x *impl.Tables) { x.Targets[2].Cell, x.Dist[2], x.Hop[2] = 0, x.Dist[0], x.Hop[0] })
	add("too few lists in Dist", func(x *impl.Tables) { x.Dist = x.Dist[:2] })
	add("too many lists in Dist", func(x *impl.Tables) { x.Dist = append(x.Dist, x.Dist[0]) })
	add("too few lists in Hop", func(x *impl.Tables) { x.Hop = x.Hop[:2] })
	add("too many lists in Hop", func(x *impl.Tables) { x.Hop = append(x.Hop, x.Hop[0]) })
	add("too few distances", func(x *impl.Tables) { x.Dist[2] = x.Dist[2][:5] })
	add("too many distances", func(x *impl.Tables) { x.Dist[2] = append(x.Dist[2], -1) })
	add("too few hops", func(x *impl.Tables) { x.Hop[2] = x.Hop[2][:5] })
	add("too many hops", func(x *impl.Tables) { x.Hop[2] = append(x.Hop[2], -1) })
	add("a target with a Dist of 1", func(x *impl.Tables) { x.Dist[2][3], x.Dist[2][0], x.Dist[2][4] = 1, 2, 2 })
	add("a target with a Dist of -1", func(x *impl.Tables) {
		x.Dist[2], x.Hop[2] = slices.Repeat([]int{-1}, 6), slices.Repeat([]int{-1}, 6)
	})
	add("a target with a Hop", func(x *impl.Tables) { x.Hop[2][3] = 1 })
	add("a Hop without a Dist", func(x *impl.Tables) { x.Hop[2][5] = 3 })
	add("a Dist without a Hop", func(x *impl.Tables) { x.Dist[2][5] = 2 })
	add("a Dist of 0 by the target", func(x *impl.Tables) { x.Dist[2][5], x.Hop[2][5] = 0, 3 })
	add("a Dist of -2", func(x *impl.Tables) { x.Dist[2][5] = -2 })
	add("a Dist of 65535", func(x *impl.Tables) { x.Dist[2][5], x.Hop[2][5] = 65535, 3 })
	add("a Hop of 4", func(x *impl.Tables) { x.Dist[2][5], x.Hop[2][5] = 2, 4 })
	add("a Hop of -2", func(x *impl.Tables) { x.Hop[2][5] = -2 })
	add("a Hop out of the grid", func(x *impl.Tables) { x.Hop[2][4] = 2 })
	add("a Hop out of the grid to a cell by its number", func(x *impl.Tables) { x.Dist[2][2], x.Hop[2][2] = 1, 1 })
	add("a Hop to a cell without a way", func(x *impl.Tables) { x.Dist[2][5], x.Hop[2][5] = 9, 0 })
	add("a Hop to a cell that is as far", func(x *impl.Tables) { x.Dist[2][1] = 1 })
	add("a Hop to a cell that is farther", func(x *impl.Tables) { x.Dist[2][5], x.Hop[2][5], x.Dist[2][4] = 2, 3, 3 })
	add("the zero tables", func(x *impl.Tables) { *x = impl.Tables{} })
	for _, x := range all {
		if wantValidTables(x.tables) || impl.ValidTables(x.tables) {
			t.Errorf("%s: the test has it wrong: %s", x.what, tablesText(x.tables))
		}
	}
	return all
}
