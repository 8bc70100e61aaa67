package tests

import (
	"fmt"
	"slices"
	"testing"

	"loop.example/s02126/impl"
)

// fleetIs wants ValidFleet to answer so, TickFleet and RunFleet to refuse exactly what is not valid, and none to write
// into what it is given.
func fleetIs(t *testing.T, what string, x impl.Tables, robots []impl.Robot, want bool) {
	t.Helper()
	if wantValidFleet(x, robots) != want {
		t.Errorf("%s: the test has it wrong: %s", what, fleetText(robots))
	}
	tables, before := copyTables(x), slices.Clone(robots)
	if got := impl.ValidFleet(x, robots); got != want {
		t.Errorf("ValidFleet(%s, %s): %v, not %v", what, fleetText(robots), got, want)
	}
	next, some, code := impl.TickFleet(x, robots)
	if want && (code != impl.CodeOK || len(next) != len(robots)) || !want && (code != impl.CodeBad || some || len(next) != 0) {
		t.Errorf("TickFleet(%s, %s): %s, %v, %d", what, fleetText(robots), fleetText(next), some, code)
	}
	report := impl.RunFleet(x, robots, 1)
	if want && (report.Code == impl.CodeBad || len(report.Robots) != len(robots)) || !want && !sameReport(report, impl.FleetReport{Code: impl.CodeBad}) {
		t.Errorf("RunFleet(%s, %s, 1): %s", what, fleetText(robots), reportText(report))
	}
	if !sameTables(x, tables) || !slices.Equal(robots, before) {
		t.Errorf("%s: what is handed in is written into", what)
	}
}

// robotsFrom has so many robots on cells one behind another.
func robotsFrom(cell, n int) []impl.Robot {
	var robots []impl.Robot
	for i := range n {
		robots = append(robots, impl.Robot{Cell: cell + i})
	}
	return robots
}

func doneOnes(n int, r impl.Robot) []impl.Robot {
	r.Done = true
	return slices.Repeat([]impl.Robot{r}, n)
}

func TestValidFleetOfHowMany(t *testing.T) {
	x := plainTables(40, 40, 30)
	for _, n := range []int{0, 1, 2, 15, 29, 30, 31, 32, 60, 1600} {
		what := fmt.Sprint(n, " robots")
		fleetIs(t, what, x, robotsFrom(0, n), n <= 30)
		fleetIs(t, what+" that are Done", x, doneOnes(n, impl.Robot{Cell: 9}), n <= 30)
		mixed := robotsFrom(0, n)
		for i := range mixed {
			mixed[i].Done = i%2 == 0
		}
		fleetIs(t, what+", half of them Done", x, mixed, n <= 30)
	}
	fleetIs(t, "nil", x, nil, true)
	fleetIs(t, "an empty list", x, []impl.Robot{}, true)
	fleetIs(t, "one more that is Done", x, append(robotsFrom(0, 30), impl.Robot{Cell: 40, Done: true}), false)
	small := plainTables(6, 5, 1)
	fleetIs(t, "one on each cell", small, robotsFrom(0, 30), true)
	fleetIs(t, "the zero robot", plainTables(1, 1, 1), []impl.Robot{{}}, true)
	none := plainTables(3, 2, 0)
	fleetIs(t, "nobody and no target", none, nil, true)
	fleetIs(t, "no target", none, []impl.Robot{{}}, false)
	fleetIs(t, "no target, but Done", none, []impl.Robot{{Done: true}}, false)
	fleetIs(t, "no target, a Target of -1", none, []impl.Robot{{Target: -1}}, false)
}

func TestValidFleetOfFields(t *testing.T) {
	fields := []struct {
		what string
		most func(x impl.Tables) int
		of   func(r *impl.Robot) *int
	}{
		{"Cell", func(x impl.Tables) int { return x.W*x.H - 1 }, func(r *impl.Robot) *int { return &r.Cell }},
		{"Target", func(x impl.Tables) int { return len(x.Targets) - 1 }, func(r *impl.Robot) *int { return &r.Target }},
		{"Moves", func(x impl.Tables) int { return 1000000 }, func(r *impl.Robot) *int { return &r.Moves }},
		{"Waits", func(x impl.Tables) int { return 1000000 }, func(r *impl.Robot) *int { return &r.Waits }},
	}
	for _, x := range []impl.Tables{plainTables(40, 40, 30), plainTables(11, 3, 1), plainTables(40, 1, 2), tablesFrom(t, "S 0 1< 2<", "C 2> 1> 0")} {
		for _, n := range []int{1, min(x.W*x.H-2, 5), min(x.W*x.H-2, 30)} {
			for _, done := range []bool{false, true} {
				for _, i := range []int{0, n / 2, n - 1} {
					robots := robotsFrom(1, n)
					robots[i].Done = done
					for _, field := range fields {
						most := field.most(x)
						for _, value := range append([]int{0, most - 1, most, most + 1, most + 2, -2}, extremes...) {
							changed := slices.Clone(robots)
							*field.of(&changed[i]) = value
							want := value >= 0 && value <= most && robotsFit(x, changed)
							fleetIs(t, fmt.Sprint(tablesText(x), ": ", field.what, " ", value, " of ", i), x, changed, want)
							if (value == 0 || value == most) && !want {
								t.Errorf("%s %d of %d: the test has it wrong", field.what, value, i)
							}
						}
					}
				}
			}
		}
	}
	x := plainTables(40, 40, 30)
	full := impl.Robot{Cell: 1599, Target: 29, Moves: 1000000, Waits: 1000000}
	fleetIs(t, "the greatest of all", x, []impl.Robot{full}, true)
	fleetIs(t, "thirty of the greatest", x, doneOnes(30, full), true)
	fleetIs(t, "column and row the other way round", plainTables(3, 2, 1), []impl.Robot{{Cell: 5}}, true)
}

func TestValidFleetOfOneCell(t *testing.T) {
	x := plainTables(40, 40, 3)
	for _, n := range []int{2, 3, 5, 30} {
		for i := range n {
			for j := range i {
				for done := range 4 {
					robots := robotsFrom(100, n)
					robots[i].Cell = robots[j].Cell
					robots[i].Done, robots[j].Done = done%2 == 1, done/2 == 1
					robots[i].Target, robots[j].Moves = 2, 7
					fleetIs(t, fmt.Sprint(i, " and ", j, " of ", n, " on one cell"), x, robots, done != 0)
				}
			}
		}
	}
	for done := range 8 {
		robots := []impl.Robot{{Cell: 4, Done: done%2 == 1}, {Cell: 4, Done: done/2%2 == 1}, {Cell: 4, Done: done/4 == 1}}
		fleetIs(t, fmt.Sprint("three on one cell, Done ", done), x, robots, done == 7 || done == 3 || done == 5 || done == 6)
	}
	// cell 0, and cells that differ by a multiple of some power of two
	fleetIs(t, "two on cell 0", x, []impl.Robot{{}, {}}, false)
	fleetIs(t, "cells that are far apart", x, []impl.Robot{{Cell: 0}, {Cell: 256}, {Cell: 512}, {Cell: 1024}, {Cell: 1536}}, true)
	fleetIs(t, "29 that are Done under one", x, append(doneOnes(29, impl.Robot{Cell: 4}), impl.Robot{Cell: 4}), true)
	fleetIs(t, "28 that are Done under two", x, append(doneOnes(28, impl.Robot{Cell: 4}), impl.Robot{Cell: 4}, impl.Robot{Cell: 4}), false)
}

func TestValidFleetOfTablesThatAreNotValid(t *testing.T) {
	for _, x := range faultyTables(t) {
		for _, text := range []string{"", "0>a", "0>a!", "0>a, 1>b, 2>c", "5>c 1000000/1000000!"} {
			fleetIs(t, x.what, x.tables, fleetFrom(t, text), false)
			for _, ticks := range []int{0, 5000} {
				if report := impl.RunFleet(x.tables, fleetFrom(t, text), ticks); !sameReport(report, impl.FleetReport{Code: impl.CodeBad}) {
					t.Errorf("%s: RunFleet(%s, %d): %s", x.what, text, ticks, reportText(report))
				}
			}
		}
	}
}

// fleet makes a valid one, and now and then one that is not.
func (w surveyor) fleet(x impl.Tables, slip int) []impl.Robot {
	var robots []impl.Robot
	if len(x.Targets) == 0 {
		return nil
	}
	cells := w.r.Perm(x.W * x.H)
	for i := range min(30, w.r.Intn(len(cells)+1)) {
		r := impl.Robot{Cell: cells[i], Target: w.r.Intn(len(x.Targets)), Done: w.oneOf(6)}
		if w.oneOf(8) {
			r.Moves = pick(w.r, 1, 300, 999999, 1000000)
			r.Waits = pick(w.r, 1, 300, 999999, 1000000)
		}
		if r.Done && w.oneOf(2) {
			r.Cell = w.r.Intn(len(cells))
		}
		robots = append(robots, r)
	}
	if slip > 0 && len(robots) > 0 && w.oneOf(slip) {
		r := &robots[w.r.Intn(len(robots))]
		*pick(w.r, &r.Cell, &r.Cell, &r.Target, &r.Moves, &r.Waits) = pick(w.r, -1, 0, 1, x.W*x.H-1, x.W*x.H, len(x.Targets)-1, len(x.Targets), 1000000, 1000001)
	}
	return robots
}

func TestValidFleetOfMadeFleets(t *testing.T) {
	counts := map[bool]int{}
	for seed := range int64(3000) {
		w := newSurveyor(320000 + seed)
		x := w.tables(4)
		for range 4 {
			robots := w.fleet(x, 2)
			want := wantValidFleet(x, robots)
			counts[want]++
			fleetIs(t, tablesText(x), x, robots, want)
		}
		if t.Failed() {
			return
		}
	}
	if counts[true] < 1500 || counts[false] < 1500 {
		t.Errorf("%v: too few of one sort", counts)
	}
}
