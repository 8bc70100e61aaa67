package tests

import (
	"fmt"
	"slices"
	"testing"

	"loop.example/s02126/impl"
)

// standApart wants no two robots that are not Done to be on one cell.
func standApart(t *testing.T, what string, robots []impl.Robot) {
	t.Helper()
	on := map[int]int{}
	for _, r := range robots {
		if !r.Done {
			on[r.Cell]++
		}
		if on[r.Cell] > 1 {
			t.Errorf("%s: two are on the cell %d: %s", what, r.Cell, fleetText(robots))
		}
	}
}

// tickOf answers TickFleet of a fleet, which it wants to be as the document has it, the fleet after it valid, and what is
// handed in to be as it was.
func tickOf(t *testing.T, x impl.Tables, robots []impl.Robot) ([]impl.Robot, bool) {
	t.Helper()
	before := slices.Clone(robots)
	next, some, code := impl.TickFleet(x, robots)
	want, wantSome, wantCode := wantTick(x, robots)
	if code != wantCode || some != wantSome || !slices.Equal(next, want) {
		t.Errorf("TickFleet(%s, %s): %s, %v, %d, not %s, %v, %d", tablesText(x), fleetText(robots), fleetText(next), some, code, fleetText(want), wantSome, wantCode)
	}
	if !slices.Equal(robots, before) {
		t.Errorf("TickFleet(%s, %s) writes into the robots", tablesText(x), fleetText(before))
	}
	if code == impl.CodeOK {
		standApart(t, fleetText(before), next)
		if !impl.ValidFleet(x, next) {
			t.Errorf("TickFleet(%s, %s): %s are no valid fleet", tablesText(x), fleetText(before), fleetText(next))
		}
	}
	return next, some
}

// tickAs wants a tick to make the one fleet out of the other, and to answer whether a robot went or became Done.
func tickAs(t *testing.T, x impl.Tables, before, after string, some bool) {
	t.Helper()
	next, got, code := impl.TickFleet(x, fleetFrom(t, before))
	if !slices.Equal(next, fleetFrom(t, after)) || got != some || code != impl.CodeOK {
		t.Errorf("TickFleet(%s): %s, %v, %d, not %s, %v", before, fleetText(next), got, code, after, some)
	}
	tickOf(t, x, fleetFrom(t, before))
}

// fiveInARow has the target a at its left end, b at its right end, and c in the middle, which is reached from cell 1 alone.
func fiveInARow(t *testing.T) impl.Tables {
	t.Helper()
	return tablesFrom(t, "S 0 1< 2< 3< 4<", "C 4> 3> 2> 1> 0", "S - 1> 0 - -")
}

func TestTickOfOneRobot(t *testing.T) {
	x := fiveInARow(t)
	tickAs(t, x, "", "", false)
	tickAs(t, x, "3>a", "2>a 1/0", true)
	tickAs(t, x, "3>b", "4>b 1/0", true)
	tickAs(t, x, "3>a 5/6", "2>a 6/6", true)
	// at the target it becomes Done, and nothing grows
	tickAs(t, x, "0>a", "0>a!", true)
	tickAs(t, x, "4>b 5/6", "4>b 5/6!", true)
	tickAs(t, x, "2>c 1000000/1000000", "2>c 1000000/1000000!", true)
	// one that is Done stays as it is, wherever it is
	for _, done := range []string{"0>a!", "3>a!", "2>b 7/9!", "4>c!", "1>c 1000000/0!", "1>c 0/1000000!", "1>a 1000000/1000000!"} {
		tickAs(t, x, done, done, false)
	}
	// no way leads to its target
	tickAs(t, x, "0>c", "0>c 0/1", false)
	tickAs(t, x, "4>c 3/8", "4>c 3/9", false)
	// nothing grows beyond the bound, but it goes all the same
	tickAs(t, x, "3>a 999999/0", "2>a 1000000/0", true)
	tickAs(t, x, "3>a 1000000/0", "2>a 1000000/0", true)
	tickAs(t, x, "3>a 0/1000000", "2>a 1/1000000", true)
	tickAs(t, x, "3>c 0/999999", "3>c 0/1000000", false)
	tickAs(t, x, "3>c 0/1000000", "3>c 0/1000000", false)
	tickAs(t, x, "3>c 1000000/4", "3>c 1000000/5", false)
	// each of the four ways
	cross := tablesFrom(t, "S - 1v - / 1> 0 1< / - 1^ -")
	for _, from := range []int{1, 3, 5, 7} {
		tickAs(t, cross, fmt.Sprintf("%d>a", from), "4>a 1/0", true)
	}
	tickAs(t, cross, "0>a", "0>a 0/1", false)
}

func TestTickOfSeveralRobots(t *testing.T) {
	x := fiveInARow(t)
	// the one in front first: the other goes onto the cell that it left
	tickAs(t, x, "1>a, 2>a", "0>a 1/0, 1>a 1/0", true)
	tickAs(t, x, "2>a, 1>a", "2>a 0/1, 0>a 1/0", true)
	tickAs(t, x, "3>b, 2>b, 1>b", "4>b 1/0, 3>b 1/0, 2>b 1/0", true)
	tickAs(t, x, "1>b, 2>b, 3>b", "1>b 0/1, 2>b 0/1, 4>b 1/0", true)
	tickAs(t, x, "2>b, 1>b, 3>b", "2>b 0/1, 1>b 0/1, 4>b 1/0", true)
	tickAs(t, x, "2>b, 3>b, 1>b", "2>b 0/1, 4>b 1/0, 1>b 0/1", true)
	tickAs(t, x, "3>b, 1>b, 2>b", "4>b 1/0, 1>b 0/1, 3>b 1/0", true)
	tickAs(t, x, "1>b, 3>b, 2>b", "1>b 0/1, 4>b 1/0, 3>b 1/0", true)
	// one that becomes Done is on no cell any more, but only from its own turn on
	tickAs(t, x, "0>a, 1>a", "0>a!, 0>a 1/0", true)
	tickAs(t, x, "1>a, 0>a", "1>a 0/1, 0>a!", true)
	tickAs(t, x, "0>a, 1>a, 2>a", "0>a!, 0>a 1/0, 1>a 1/0", true)
	tickAs(t, x, "2>a, 1>a, 0>a", "2>a 0/1, 1>a 0/1, 0>a!", true)
	tickAs(t, x, "2>c, 1>b", "2>c!, 2>b 1/0", true)
	// one that was Done is in nobody's way
	tickAs(t, x, "0>a!, 1>a", "0>a!, 0>a 1/0", true)
	tickAs(t, x, "1>a, 0>b 4/4!", "0>a 1/0, 0>b 4/4!", true)
	tickAs(t, x, "2>a!, 1>a!, 2>a, 1>b!", "2>a!, 1>a!, 1>a 1/0, 1>b!", true)
	// where one that is not Done and one that is are on one cell, it is taken
	tickAs(t, x, "2>c!, 2>a, 3>a", "2>c!, 1>a 1/0, 2>a 1/0", true)
	tickAs(t, x, "3>a, 2>c!, 2>a", "3>a 0/1, 2>c!, 1>a 1/0", true)
	tickAs(t, x, "3>a, 2>a, 2>c!", "3>a 0/1, 1>a 1/0, 2>c!", true)
	// two that want the same cell
	tickAs(t, x, "1>b, 3>a", "2>b 1/0, 3>a 0/1", true)
	tickAs(t, x, "3>a, 1>b", "2>a 1/0, 1>b 0/1", true)
	// it is free by then, though it was not when the tick began; and the other way round
	tickAs(t, x, "2>a, 3>a, 4>a", "1>a 1/0, 2>a 1/0, 3>a 1/0", true)
	tickAs(t, x, "1>b, 2>b, 4>a", "1>b 0/1, 3>b 1/0, 4>a 0/1", true)
	// in each other's way for ever
	tickAs(t, x, "1>b, 2>a", "1>b 0/1, 2>a 0/1", false)
	tickAs(t, x, "2>a 3/3, 1>b 4/4", "2>a 3/4, 1>b 4/5", false)
	tickAs(t, x, "0>b, 1>b, 2>a, 3>a", "0>b 0/1, 1>b 0/1, 2>a 0/1, 3>a 0/1", false)
	// one on another's target is in its way, one without a way too
	tickAs(t, x, "0>c, 1>a", "0>c 0/1, 1>a 0/1", false)
	tickAs(t, x, "3>c, 2>b, 4>a", "3>c 0/1, 2>b 0/1, 4>a 0/1", false)
	tickAs(t, x, "3>c 0/1000000, 2>b 0/999999, 4>a 0/1000000", "3>c 0/1000000, 2>b 0/1000000, 4>a 0/1000000", false)
}

// The bool is of a robot that went or became Done, wherever it stands in the list.
func TestTickTellsWhetherOneWentOrBecameDone(t *testing.T) {
	x := fiveInARow(t)
	tickAs(t, x, "3>c, 4>c, 1>a", "3>c 0/1, 4>c 0/1, 0>a 1/0", true)
	tickAs(t, x, "1>a, 3>c, 4>c", "0>a 1/0, 3>c 0/1, 4>c 0/1", true)
	tickAs(t, x, "3>c, 1>a 1000000/1000000, 4>c", "3>c 0/1, 0>a 1000000/1000000, 4>c 0/1", true)
	tickAs(t, x, "3>c, 4>c, 0>a", "3>c 0/1, 4>c 0/1, 0>a!", true)
	tickAs(t, x, "0>a, 3>c, 4>c", "0>a!, 3>c 0/1, 4>c 0/1", true)
	tickAs(t, x, "0>a!, 3>c, 4>c", "0>a!, 3>c 0/1, 4>c 0/1", false)
	tickAs(t, x, "3>c, 4>c, 0>a!", "3>c 0/1, 4>c 0/1, 0>a!", false)
	tickAs(t, x, "3>c, 4>c, 0>c", "3>c 0/1, 4>c 0/1, 0>c 0/1", false)
	tickAs(t, x, "0>a!, 1>a!, 4>c 1/1!", "0>a!, 1>a!, 4>c 1/1!", false)
	tickAs(t, plainTables(1, 1, 0), "", "", false)
}

// ring has four targets; to each of them all others go round the same way.
func ring() impl.Tables {
	return pathTables(2, 2, []int{1, 3, 2, 0}, []int{3, 2, 0, 1}, []int{0, 1, 3, 2}, []int{2, 0, 1, 3})
}

func TestTickInARing(t *testing.T) {
	x := ring()
	tablesGood(t, "the ring", x)
	// each waits for the next one
	tickAs(t, x, "0>d, 1>c, 3>a, 2>b", "0>d 0/1, 1>c 0/1, 3>a 0/1, 2>b 0/1", false)
	tickAs(t, x, "2>b, 3>a, 1>c, 0>d", "2>b 0/1, 3>a 0/1, 1>c 0/1, 0>d 0/1", false)
	// one is missing: by their order one of them goes, or all
	tickAs(t, x, "1>c, 3>a, 2>b", "1>c 0/1, 3>a 0/1, 0>b 1/0", true)
	tickAs(t, x, "2>b, 3>a, 1>c", "0>b 1/0, 2>a 1/0, 3>c 1/0", true)
	tickAs(t, x, "3>a, 2>b, 1>c", "3>a 0/1, 0>b 1/0, 1>c 0/1", true)
	// one is there already: it makes room for those behind it in the list
	tickAs(t, x, "0>a, 2>b, 3>a, 1>c", "0>a!, 0>b 1/0, 2>a 1/0, 3>c 1/0", true)
	tickAs(t, x, "2>b, 3>a, 1>c, 0>a", "2>b 0/1, 3>a 0/1, 1>c 0/1, 0>a!", true)
}

// smallFleets calls for each choice of Cell, Target and Done of up to so many robots, also where it is no valid fleet.
func smallFleets(x impl.Tables, most int, visit func(robots []impl.Robot)) {
	var choices []impl.Robot
	for cell := range x.W * x.H {
		for target := range x.Targets {
			choices = append(choices, impl.Robot{Cell: cell, Target: target}, impl.Robot{Cell: cell, Target: target, Done: true})
		}
	}
	var fill func(robots []impl.Robot)
	fill = func(robots []impl.Robot) {
		visit(robots)
		if len(robots) < most {
			for _, r := range choices {
				fill(append(slices.Clone(robots), r))
			}
		}
	}
	fill(nil)
}

func fleetTables(t *testing.T) []impl.Tables {
	t.Helper()
	all := []impl.Tables{
		tablesFrom(t, "S 0"),
		tablesFrom(t, "S 0 1< 2<", "C 2> 1> 0"),
		tablesFrom(t, "S 1> 0 1<", "C 2> 1> 0"),
		tablesFrom(t, "S 0 9< -", "C - 3> 0"),
		tablesFrom(t, "S 0 / 1^ / -", "C - / 0 / 1^"),
		tablesFrom(t, "S 0 1< / 1^ 2^", "C 2> 1v / 1> 0"),
		tablesFrom(t, "S 0 5v / 1^ 4<", "C 3v 0 / 2> 1^"),
		tablesFrom(t, "S 0 - / 1^ -", "C - 1v / - 0"),
	}
	for _, x := range all {
		tablesGood(t, tablesText(x), x)
	}
	return all
}

// countTicks counts what a tick did, so that no sort is left out.
func countTicks(counts map[string]int, before, after []impl.Robot) {
	for i, r := range before {
		switch {
		case r.Done:
			counts["Done before"]++
		case after[i].Done:
			counts["Done now"]++
		case after[i].Cell != r.Cell:
			counts["went"]++
		default:
			counts["waited"]++
		}
	}
}

func TestTicksOfAllSmallFleets(t *testing.T) {
	counts := map[string]int{}
	tick := func(x impl.Tables, robots []impl.Robot) {
		next, _ := tickOf(t, x, robots)
		if len(next) == len(robots) {
			countTicks(counts, robots, next)
		} else {
			counts["refused"]++
		}
	}
	for _, x := range fleetTables(t) {
		smallFleets(x, 3, func(robots []impl.Robot) { tick(x, robots) })
		if t.Failed() {
			return
		}
	}
	x := tablesFrom(t, "S 0 1< 2<", "C 2> 1> 0")
	smallFleets(x, 4, func(robots []impl.Robot) { tick(x, robots) })
	for _, sort := range []string{"Done before", "Done now", "went", "waited", "refused"} {
		if counts[sort] < 3000 {
			t.Errorf("%v: too few of one sort", counts)
		}
	}
}

// inAllOrders calls for each order of a list.
func inAllOrders(list []impl.Robot, visit func(ordered []impl.Robot)) {
	var fill func(ordered, rest []impl.Robot)
	fill = func(ordered, rest []impl.Robot) {
		if len(rest) == 0 {
			visit(ordered)
		}
		for i := range rest {
			fill(append(slices.Clone(ordered), rest[i]), slices.Delete(slices.Clone(rest), i, i+1))
		}
	}
	fill(nil, list)
}

func TestTicksInAllOrders(t *testing.T) {
	x := fiveInARow(t)
	for _, text := range []string{"0>b, 1>b, 2>b, 3>b, 4>b", "0>a, 1>a, 2>a, 3>a, 4>a", "0>a, 1>a, 2>c, 3>b, 4>b", "0>b, 1>a!, 2>c, 3>c, 4>a", "1>b, 1>b!, 2>a, 2>c!, 3>a"} {
		inAllOrders(fleetFrom(t, text), func(robots []impl.Robot) {
			for range 12 {
				next, some := tickOf(t, x, robots)
				if !some {
					break
				}
				robots = next
			}
		})
	}
	inAllOrders(fleetFrom(t, "0>d, 1>c, 3>a, 2>b"), func(robots []impl.Robot) { tickOf(t, ring(), robots) })
}

func TestTicksOfMadeFleets(t *testing.T) {
	counts := map[string]int{}
	for seed := range int64(1500) {
		w := newSurveyor(330000 + seed)
		x := w.tables(5)
		if seed%2 == 1 {
			x, _ = impl.BuildTables(w.layout(5))
		}
		robots := w.fleet(x, 0)
		for range 10 {
			next, some := tickOf(t, x, robots)
			if len(next) != len(robots) {
				t.Errorf("%s: %s are refused", tablesText(x), fleetText(robots))
			}
			if t.Failed() {
				return
			}
			countTicks(counts, robots, next)
			if !some {
				break
			}
			robots = next
		}
	}
	for _, sort := range []string{"Done before", "Done now", "went", "waited"} {
		if counts[sort] < 1000 {
			t.Errorf("%v: too few of one sort", counts)
		}
	}
}

func TestTicksOfMostRobots(t *testing.T) {
	path := snakePath(40, 40)
	snake := pathTables(40, 40, path, reversed(path))
	back := robotsFrom(0, 30)
	slices.Reverse(back)
	open, _ := impl.BuildTables(mostTargets())
	all := robotsFrom(600, 30)
	for i := range all {
		all[i].Target = i
	}
	for _, x := range []struct {
		tables impl.Tables
		robots []impl.Robot
		went   int
	}{{snake, robotsFrom(0, 30), 1}, {snake, back, 30}, {open, all, -1}} {
		next, some := tickOf(t, x.tables, x.robots)
		went := 0
		for _, r := range next {
			went += r.Moves
		}
		if !some || x.went >= 0 && went != x.went {
			t.Errorf("%d of 30 went, not %d", went, x.went)
		}
		for range 20 {
			next, _ = tickOf(t, x.tables, next)
		}
	}
}

// roomyRobots has something behind its length.
func roomyRobots(robots []impl.Robot) []impl.Robot {
	return append(slices.Clone(robots), impl.Robot{Cell: 7}, impl.Robot{Cell: 7})[:len(robots)]
}

func behindRobots(t *testing.T, what string, robots []impl.Robot) {
	t.Helper()
	if n := len(robots); !slices.Equal(robots[n:n+2], []impl.Robot{{Cell: 7}, {Cell: 7}}) {
		t.Errorf("%s: what lies behind the robots is written into", what)
	}
}

func TestFleetAnswersAreNewMemory(t *testing.T) {
	for _, text := range []string{"", "0>a", "0>a!", "1>a, 2>a, 3>a", "1>b, 2>a", "3>c, 4>c", "0>b, 0>a!, 4>a", "2>c, 1>c 9/9"} {
		x, robots := roomyTables(fiveInARow(t)), roomyRobots(fleetFrom(t, text))
		valid := impl.ValidFleet(x, robots)
		next, some, code := impl.TickFleet(x, robots)
		again, someAgain, codeAgain := impl.TickFleet(x, robots)
		if !valid || some != someAgain || code != codeAgain || !slices.Equal(next, again) {
			t.Errorf("%s: %v, %s, then %s", text, valid, fleetText(next), fleetText(again))
		}
		report, reportAgain := impl.RunFleet(x, robots, 9), impl.RunFleet(x, robots, 9)
		still := impl.RunFleet(x, robots, 0)
		if !sameReport(report, reportAgain) {
			t.Errorf("%s: %s, then %s", text, reportText(report), reportText(reportAgain))
		}
		lists := [][]impl.Robot{robots, next, again, report.Robots, reportAgain.Robots, still.Robots}
		extents := tablesExtents(x)
		for _, list := range lists {
			extents = append(extents, extentOf(list))
		}
		shareNone(t, text, extents)
		for _, list := range lists[1:] {
			clear(list[:cap(list)])
		}
		if !slices.Equal(robots, fleetFrom(t, text)) || !sameTables(x, fiveInARow(t)) {
			t.Errorf("%s: what is handed in is written into", text)
		}
		behindRobots(t, text, robots)
		behindLists(t, text, slices.Concat(x.Dist, x.Hop)...)
		for _, target := range x.Targets {
			behindName(t, text, target.Name)
		}
		// what is handed in may be changed when the answer is there
		last := impl.RunFleet(x, robots, 9)
		want := wantReport(fiveInARow(t), fleetFrom(t, text), 9)
		clear(robots)
		wipeTables(x)
		if !sameReport(last, want) {
			t.Errorf("%s: %s, not %s", text, reportText(last), reportText(want))
		}
	}
}
