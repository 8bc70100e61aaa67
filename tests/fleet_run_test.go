package tests

import (
	"slices"
	"testing"

	"loop.example/s02126/impl"
)

// runByTicks goes by TickFleet again and again, as the document has it.
func runByTicks(t *testing.T, x impl.Tables, robots []impl.Robot, ticks int) impl.FleetReport {
	t.Helper()
	now := slices.Clone(robots)
	for made := 0; ; made++ {
		if areDone(now) {
			return impl.FleetReport{Code: impl.CodeOK, Ticks: made, Robots: now}
		}
		if made == ticks {
			return impl.FleetReport{Code: impl.CodeLimit, Ticks: made, Robots: now}
		}
		next, some, code := impl.TickFleet(x, now)
		if code != impl.CodeOK {
			t.Errorf("TickFleet(%s, %s): %d", tablesText(x), fleetText(now), code)
			return impl.FleetReport{Code: code}
		}
		standApart(t, fleetText(now), next)
		if !some {
			return impl.FleetReport{Code: impl.CodeStuck, Ticks: made + 1, Robots: next}
		}
		now = next
	}
}

// runOf answers RunFleet, which it wants to be as the document has it, and what is handed in to be as it was.
func runOf(t *testing.T, x impl.Tables, robots []impl.Robot, ticks int) impl.FleetReport {
	t.Helper()
	before := slices.Clone(robots)
	got, want := impl.RunFleet(x, robots, ticks), wantReport(x, robots, ticks)
	if !sameReport(got, want) {
		t.Errorf("RunFleet(%s, %s, %d): %s, not %s", tablesText(x), fleetText(robots), ticks, reportText(got), reportText(want))
	}
	if !slices.Equal(robots, before) {
		t.Errorf("RunFleet(%s, %s, %d) writes into the robots", tablesText(x), fleetText(before), ticks)
	}
	return got
}

// runTwice holds RunFleet against TickFleet, too.
func runTwice(t *testing.T, x impl.Tables, robots []impl.Robot, ticks int) impl.FleetReport {
	t.Helper()
	got := runOf(t, x, robots, ticks)
	if want := runByTicks(t, x, robots, ticks); !sameReport(got, want) {
		t.Errorf("RunFleet(%s, %s, %d): %s, but by TickFleet %s", tablesText(x), fleetText(robots), ticks, reportText(got), reportText(want))
	}
	return got
}

func runAs(t *testing.T, x impl.Tables, robots string, ticks, code, used int, after string) {
	t.Helper()
	want := impl.FleetReport{Code: code, Ticks: used, Robots: fleetFrom(t, after)}
	if got := impl.RunFleet(x, fleetFrom(t, robots), ticks); !sameReport(got, want) {
		t.Errorf("RunFleet(%s, %d): %s, not %s", robots, ticks, reportText(got), reportText(want))
	}
	runTwice(t, x, fleetFrom(t, robots), ticks)
}

func TestRunCases(t *testing.T) {
	x := fiveInARow(t)
	for _, ticks := range []int{0, 1, 5000} {
		// nobody, and all of them Done: nothing is to be done
		runAs(t, x, "", ticks, impl.CodeOK, 0, "")
		runAs(t, plainTables(1, 1, 0), "", ticks, impl.CodeOK, 0, "")
		runAs(t, x, "3>a 4/5!", ticks, impl.CodeOK, 0, "3>a 4/5!")
		runAs(t, x, "3>a!, 3>b!, 0>c!", ticks, impl.CodeOK, 0, "3>a!, 3>b!, 0>c!")
	}
	// no tick, and one that is not Done
	runAs(t, x, "3>a 4/5", 0, impl.CodeLimit, 0, "3>a 4/5")
	runAs(t, x, "0>a", 0, impl.CodeLimit, 0, "0>a")
	runAs(t, x, "3>a!, 2>a", 0, impl.CodeLimit, 0, "3>a!, 2>a")
	runAs(t, x, "0>c", 0, impl.CodeLimit, 0, "0>c")
	// all of them Done exactly at the last tick, and one fewer
	runAs(t, x, "0>a", 1, impl.CodeOK, 1, "0>a!")
	runAs(t, x, "1>a", 1, impl.CodeLimit, 1, "0>a 1/0")
	runAs(t, x, "1>a", 2, impl.CodeOK, 2, "0>a 1/0!")
	runAs(t, x, "1>a", 3, impl.CodeOK, 2, "0>a 1/0!")
	runAs(t, x, "0>b", 5, impl.CodeOK, 5, "4>b 4/0!")
	runAs(t, x, "0>b", 4, impl.CodeLimit, 4, "4>b 4/0")
	runAs(t, x, "0>b", 3, impl.CodeLimit, 3, "3>b 3/0")
	runAs(t, x, "0>b", 5000, impl.CodeOK, 5, "4>b 4/0!")
	runAs(t, x, "1>a, 2>a", 3, impl.CodeOK, 3, "0>a 1/0!, 0>a 2/0!")
	runAs(t, x, "1>a, 2>a", 2, impl.CodeLimit, 2, "0>a 1/0!, 0>a 2/0")
	runAs(t, x, "2>a, 1>a", 4, impl.CodeOK, 4, "0>a 2/1!, 0>a 1/0!")
	runAs(t, x, "2>a, 1>a", 3, impl.CodeLimit, 3, "0>a 2/1, 0>a 1/0!")
	// nobody can go on: this tick is counted
	runAs(t, x, "0>c", 1, impl.CodeStuck, 1, "0>c 0/1")
	runAs(t, x, "0>c", 5000, impl.CodeStuck, 1, "0>c 0/1")
	runAs(t, x, "1>b, 2>a", 1, impl.CodeStuck, 1, "1>b 0/1, 2>a 0/1")
	runAs(t, x, "1>b, 2>a", 2, impl.CodeStuck, 1, "1>b 0/1, 2>a 0/1")
	runAs(t, x, "0>b, 4>a", 3, impl.CodeStuck, 3, "2>b 2/1, 3>a 1/2")
	runAs(t, x, "0>b, 4>a", 2, impl.CodeLimit, 2, "2>b 2/0, 3>a 1/1")
	runAs(t, x, "0>b, 4>a", 4, impl.CodeStuck, 3, "2>b 2/1, 3>a 1/2")
	runAs(t, x, "0>a, 4>c", 5000, impl.CodeStuck, 2, "0>a!, 4>c 0/2")
	runAs(t, x, "0>a, 4>c", 2, impl.CodeStuck, 2, "0>a!, 4>c 0/2")
	runAs(t, x, "0>a, 4>c", 1, impl.CodeLimit, 1, "0>a!, 4>c 0/1")
	runAs(t, x, "4>a 0/1000000, 3>c 1000000/1000000", 9, impl.CodeStuck, 1, "4>a 0/1000000, 3>c 1000000/1000000")
	// what is counted already is counted on, up to the bound
	runAs(t, x, "0>b 999997/7", 9, impl.CodeOK, 5, "4>b 1000000/7!")
	runAs(t, x, "1>a, 4>c 3/999998", 9, impl.CodeStuck, 3, "0>a 1/0!, 4>c 3/1000000")
	runAs(t, ring(), "2>b, 3>a, 1>c, 0>d", 5000, impl.CodeStuck, 1, "2>b 0/1, 3>a 0/1, 1>c 0/1, 0>d 0/1")
	runAs(t, ring(), "0>a, 2>b, 3>a, 1>c", 5000, impl.CodeOK, 3, "0>a!, 1>b 2/0!, 0>a 2/0!, 2>c 2/0!")
}

func TestRunRefuses(t *testing.T) {
	x := fiveInARow(t)
	none := impl.FleetReport{Code: impl.CodeBad}
	for _, text := range []string{"", "0>a", "3>a 4/5!", "1>a, 2>b", "0>c"} {
		for _, ticks := range append([]int{5001, 5002, -2, -5000, 10000, 65536}, extremes...) {
			if got := runOf(t, x, fleetFrom(t, text), ticks); !sameReport(got, none) {
				t.Errorf("RunFleet(%s, %d): %s", text, ticks, reportText(got))
			}
		}
		for _, ticks := range []int{0, 1, 4999, 5000} {
			if got := runTwice(t, x, fleetFrom(t, text), ticks); got.Code == impl.CodeBad {
				t.Errorf("RunFleet(%s, %d): %s", text, ticks, reportText(got))
			}
		}
	}
	for _, text := range []string{"5>a", "-1>a", "0>d", "0>a -1/0", "0>a 0/-1", "0>a 1000001/0", "0>a 0/1000001", "1>a, 1>b", "5>a!", "0>d!", "0>a -1/0!", "0>a 0/1000001!", "0>a!, 2>a, 2>c"} {
		for _, ticks := range append([]int{0, 1, 5000, 5001}, extremes...) {
			if got := runOf(t, x, fleetFrom(t, text), ticks); !sameReport(got, none) {
				t.Errorf("RunFleet(%s, %d): %s", text, ticks, reportText(got))
			}
		}
	}
	for _, ticks := range []int{0, 5000} {
		if got := impl.RunFleet(x, doneOnes(31, impl.Robot{}), ticks); !sameReport(got, none) {
			t.Errorf("31 robots: %s", reportText(got))
		}
	}
}

func TestRunsOfAllSmallFleets(t *testing.T) {
	counts := map[int]int{}
	for _, x := range fleetTables(t) {
		smallFleets(x, 2, func(robots []impl.Robot) {
			if !robotsFit(x, robots) {
				return
			}
			for ticks := range 8 {
				counts[runTwice(t, x, robots, ticks).Code]++
			}
		})
		if t.Failed() {
			return
		}
	}
	for _, code := range []int{impl.CodeOK, impl.CodeLimit, impl.CodeStuck} {
		if counts[code] < 1000 {
			t.Errorf("%v: too few of one sort", counts)
		}
	}
}

func TestRunsOfThreeRobots(t *testing.T) {
	for _, x := range fleetTables(t)[1:] {
		n := 0
		smallFleets(x, 3, func(robots []impl.Robot) {
			if n++; n%3 == 0 && robotsFit(x, robots) {
				runOf(t, x, robots, 5000)
			}
		})
	}
}

// Each number of ticks up to the one that is needed, and beyond.
func TestRunsOfMadeFleets(t *testing.T) {
	counts := map[int]int{}
	for seed := range int64(600) {
		w := newSurveyor(340000 + seed)
		x := w.tables(5)
		if seed%2 == 1 {
			x, _ = impl.BuildTables(w.layout(5))
		}
		robots := w.fleet(x, 0)
		most := runTwice(t, x, robots, 5000)
		if most.Code == impl.CodeLimit {
			t.Errorf("%s, %s: no end after 5000 ticks", tablesText(x), fleetText(robots))
		}
		for ticks := range most.Ticks + 3 {
			got := runOf(t, x, robots, ticks)
			if ticks < most.Ticks != (got.Code == impl.CodeLimit) || ticks >= most.Ticks && !sameReport(got, most) {
				t.Errorf("%s, %s: %s with %d ticks, %s with 5000", tablesText(x), fleetText(robots), reportText(got), ticks, reportText(most))
			}
			counts[got.Code]++
		}
		if t.Failed() {
			return
		}
	}
	for _, code := range []int{impl.CodeOK, impl.CodeLimit, impl.CodeStuck} {
		if counts[code] < 300 {
			t.Errorf("%v: too few of one sort", counts)
		}
	}
}

// aloneIs wants a robot to need one tick for each step of its walk, and one more.
func aloneIs(t *testing.T, x impl.Tables, target, cell int, others ...impl.Robot) {
	t.Helper()
	walk, code := impl.Walk(x, target, cell)
	robots := append([]impl.Robot{{Cell: cell, Target: target}}, others...)
	got := impl.RunFleet(x, robots, 5000)
	want := impl.FleetReport{Code: impl.CodeOK, Ticks: len(walk), Robots: append([]impl.Robot{{Cell: x.Targets[target].Cell, Target: target, Moves: len(walk) - 1, Done: true}}, others...)}
	if code == impl.CodeLost {
		want = impl.FleetReport{Code: impl.CodeStuck, Ticks: 1, Robots: append([]impl.Robot{{Cell: cell, Target: target, Waits: 1}}, others...)}
	}
	if !sameReport(got, want) {
		t.Errorf("%s: a robot alone from %d to %d: %s, not %s", tablesText(x), cell, target, reportText(got), reportText(want))
	}
	if code == impl.CodeOK {
		if got := impl.RunFleet(x, robots, len(walk)-1); got.Code != impl.CodeLimit || got.Ticks != len(walk)-1 || got.Robots[0].Done || got.Robots[0].Cell != x.Targets[target].Cell {
			t.Errorf("%s: a robot alone from %d to %d with a tick too few: %s", tablesText(x), cell, target, reportText(got))
		}
	}
}

func TestRobotsAlone(t *testing.T) {
	for seed := range int64(200) {
		w := newSurveyor(350000 + seed)
		x := w.tables(6)
		if seed%2 == 1 {
			x, _ = impl.BuildTables(w.layout(6))
		}
		for target := range x.Targets {
			for cell := range x.W * x.H {
				aloneIs(t, x, target, cell)
			}
			// those that are Done are nobody's company
			aloneIs(t, x, target, 0, impl.Robot{Cell: x.Targets[target].Cell, Done: true}, impl.Robot{Target: target, Waits: 3, Done: true})
		}
		if t.Failed() {
			return
		}
	}
	path := snakePath(40, 40)
	snake := pathTables(40, 40, path, reversed(path))
	aloneIs(t, snake, 0, 0)
	aloneIs(t, snake, 1, path[1599])
	aloneIs(t, snake, 0, path[1599])
	if got := impl.RunFleet(snake, []impl.Robot{{}}, 5000); got.Code != impl.CodeOK || got.Ticks != 1600 {
		t.Errorf("the longest walk: %s", reportText(got))
	}
	if got := impl.RunFleet(snake, []impl.Robot{{}}, 1599); got.Code != impl.CodeLimit || got.Ticks != 1599 {
		t.Errorf("the longest walk, a tick too few: %s", reportText(got))
	}
}

func TestRunsOfMostRobots(t *testing.T) {
	path := snakePath(40, 40)
	snake := pathTables(40, 40, path, reversed(path))
	front := robotsFrom(0, 30)
	slices.Reverse(front)
	open, _ := impl.BuildTables(mostTargets())
	spread := robotsFrom(0, 30)
	for i := range spread {
		spread[i] = impl.Robot{Cell: 53*i + 20, Target: (i*7 + 3) % 30}
	}
	meet := robotsFrom(0, 15)
	for i := range 15 {
		meet = append(meet, impl.Robot{Cell: path[1599-i], Target: 1})
	}
	for i, x := range []struct {
		tables impl.Tables
		robots []impl.Robot
		code   int
		ticks  int // 0 where nothing is said of it
	}{
		{snake, robotsFrom(0, 30), impl.CodeOK, 0},
		{snake, front, impl.CodeOK, 1600}, // all go at once, and each is there a tick after the one in front of it
		{snake, meet, impl.CodeStuck, 0},
		{open, spread, wantReport(open, spread, 5000).Code, 0},
	} {
		got := runOf(t, x.tables, x.robots, 5000)
		if got.Code != x.code || x.ticks > 0 && got.Ticks != x.ticks {
			t.Errorf("run %d: %s", i, reportText(got))
		}
		for _, ticks := range []int{got.Ticks - 1, got.Ticks, got.Ticks / 2} {
			if fewer := runOf(t, x.tables, x.robots, ticks); (fewer.Code == impl.CodeLimit) != (ticks < got.Ticks) {
				t.Errorf("run %d: %s with %d ticks", i, reportText(fewer), ticks)
			}
		}
	}
}

// Whoever calls at the same time gets the same answer.
func TestRunsAtTheSameTime(t *testing.T) {
	x, robots := fiveInARow(t), fleetFrom(t, "0>b, 1>b, 2>b, 3>b")
	want := wantReport(x, robots, 5000)
	answers := make(chan impl.FleetReport)
	for range 16 {
		go func() { answers <- impl.RunFleet(x, robots, 5000) }()
	}
	for i := range 16 {
		if got := <-answers; !sameReport(got, want) {
			t.Errorf("caller %d: %s", i, reportText(got))
		}
	}
}
