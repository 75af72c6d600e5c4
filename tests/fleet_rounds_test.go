package tests

import (
	"slices"
	"testing"

	"loop.example/g00024/impl"
)

// Promise 14, of FleetOk and RoundTime: a round is feasible, and takes what is driven.

func TestFleetsThatCanBe(t *testing.T) {
	g := spokes(3, 4)
	checkFleetOk(t, "two Tasks", g, fleet(2, task(1), task(2)), true)
	checkFleetOk(t, "no Tasks", g, fleet(1), true)
	checkFleetOk(t, "no Tasks, an empty list", g, impl.Fleet{Vehicles: 1, Tasks: []impl.Task{}}, true)
	checkFleetOk(t, "as many Tasks as may be", g, fleet(1, tasksAt(1, 2, 1, 2, 1, 2)...), true)
	checkFleetOk(t, "a Task too many", g, fleet(1, tasksAt(1, 2, 1, 2, 1, 2, 1)...), false)
	checkFleetOk(t, "nothing", g, impl.Fleet{}, false)
	checkFleetOk(t, "no places", impl.Graph{}, fleet(1), false)
	checkFleetOk(t, "more than can be driven with", g, withRoom(fleet(1, loaded(1, 1000)), 0), true)
	checkFleetOk(t, "closed ahead of Start", g, withStart(fleet(1, during(1, 0, 0, 0)), 1000000), true)
	checkFleetOk(t, "a place that no Road comes to", manyPlaces(3), fleet(1, task(2)), true)
	for place := range int64(3) {
		f := fleet(1, task(place), task(2-place))
		f.Depot = place
		checkFleetOk(t, "a place of the graph", g, f, true)
	}
}

func TestFleetsAtTheirBounds(t *testing.T) {
	g := spokes(3, 4)
	for _, field := range fleetFields() {
		for _, n := range []int64{field.least, field.least + 1, field.most - 1, field.most} {
			f := fleet(2, task(1), task(2))
			*field.of(&f) = n
			checkFleetOk(t, field.name, g, f, true)
		}
	}
	for _, n := range []int64{0, 1, 500, 999999, 1000000} {
		checkFleetOk(t, "Open as Close", g, fleet(1, during(1, n, n, 0)), true)
		checkFleetOk(t, "Open above Close by one", g, fleet(1, during(1, n+1, n, 0)), false)
		checkFleetOk(t, "the last Task's Open above Close by one", g, fleet(1, task(1), during(2, n+1, n, 0)), false)
		checkFleetOk(t, "Open below Close by one", g, fleet(1, during(1, max(n-1, 0), n, 0)), true)
	}
	for _, bad := range badFleets() {
		checkFleetOk(t, bad.name, g, bad.fleet, false)
	}
}

func TestFleetsOfGraphsThatCantBe(t *testing.T) {
	for _, bad := range badGraphs() {
		for _, f := range []impl.Fleet{fleet(1), fleet(2, task(0)), fleet(4, task(0), task(0))} {
			checkFleetOk(t, bad.name, bad.graph, f, false)
			checkRound(t, bad.name, bad.graph, f, -1, 0)
			checkRound(t, bad.name, bad.graph, f, -1)
			checkPlanTime(t, bad.name, bad.graph, f, -1, []int64{0})
			checkPlanTime(t, bad.name, bad.graph, f, -1, []int64{0}, []int64{1})
			checkPlanTime(t, bad.name, bad.graph, f, -1)
			checkNoPlan(t, bad.name, bad.graph, f)
		}
	}
}

func TestRoundsOfFleetsThatCantBe(t *testing.T) {
	g := spokes(3, 4)
	checkRound(t, "as it was", g, fleet(2, task(1), task(2)), 6, 0)
	for _, bad := range badFleets() {
		for _, round := range [][]int64{nil, {0}, {1}, {0, 1}, {1, 0}} {
			checkRound(t, bad.name, g, bad.fleet, -1, round...)
		}
		for _, plan := range [][][]int64{nil, {{0}}, {{1}}, {{0, 1}}, {{1, 0}}, {{0}, {1}}, {{0, 1, 2, 3, 4, 5, 6}}} {
			checkPlanTime(t, bad.name, g, bad.fleet, -1, plan...)
		}
		checkNoPlan(t, bad.name, g, bad.fleet)
	}
}

func TestRoundTime(t *testing.T) {
	// Places 0 to 5 along a lane, ten from each to the next.
	g := lane(6, 10)
	f := fleet(1, tasksAt(2, 5, 1)...)
	checkRound(t, "one Task", g, f, 40, 0)
	checkRound(t, "the farthest alone", g, f, 100, 1)
	checkRound(t, "the last alone", g, f, 20, 2)
	checkRound(t, "two", g, f, 20+30+50, 0, 1)
	checkRound(t, "the same two, turned round", g, f, 50+30+20, 1, 0)
	checkRound(t, "all, to and fro", g, f, 20+30+40+10, 0, 1, 2)
	checkRound(t, "all, by the way", g, f, 10+10+30+50, 2, 0, 1)
	checkRound(t, "all, forth and back and forth", g, f, 10+40+30+20, 2, 1, 0)
	checkRound(t, "all, in the worst order", g, f, 20+10+40+50, 0, 2, 1)
	f.Depot = 5
	checkRound(t, "from the other end", g, f, 60, 0)
	checkRound(t, "from the other end, two", g, f, 30+10+40, 0, 2)
	checkRound(t, "all of six", g, fleet(1, tasksAt(1, 2, 3, 4, 5, 3)...), 10+10+10+10+10+20+30, 0, 1, 2, 3, 4, 5)
}

// Each way between two stops is a BestPath by itself: what it costs to turn at a stop does not count.
func TestRoundsDoNotTurnAtTheirStops(t *testing.T) {
	g := star()
	// From the east by the middle it is 1, 0 and 1 to the west, 1, 3 and 1 to the north; from the north to the east 1, 5 and 1.
	f := fleet(1, tasksAt(1, 5, 3)...)
	checkRound(t, "one, and straight back", g, f, 2, 0)
	checkRound(t, "straight through the middle", g, f, 1+2+1, 0, 1)
	checkRound(t, "to the right", g, f, 1+5+1, 0, 2)
	checkRound(t, "to the left", g, f, 1+7+1, 2, 0)
	checkRound(t, "to the right, and again", g, f, 1+5+5+1, 0, 2, 1)
	// With the Depot on the edge the middle is but a place on the way.
	f.Depot = 3
	checkRound(t, "round about", g, f, 7+2+7, 0, 1)
	checkRound(t, "at the Depot and the east", g, f, 0+7+5, 2, 0)
	// A turn that is forbidden is forbidden on the way, not at a stop.
	g = crossing(10, 10, 10, 20, 20)
	g.Roads = append(g.Roads, timed(2, 0, 7))
	f = fleet(1, task(1), task(2))
	checkRound(t, "by the stop", withBans(g, ban(0, 1)), f, 10+10+7, 0, 1)
	checkRound(t, "straight there, by the other side", withBans(g, ban(0, 1)), f, 43+7, 1)
}

func TestRoundsThatAreNone(t *testing.T) {
	g := lane(6, 10)
	f := fleet(2, tasksAt(1, 2, 3)...)
	for _, none := range [][]int64{nil, {}} {
		checkRound(t, "empty", g, f, -1, none...)
		checkRound(t, "empty, without Tasks", g, fleet(2), -1, none...)
	}
	checkRound(t, "the first number", g, f, 20, 0)
	checkRound(t, "the last number", g, f, 60, 2)
	for _, bad := range append(farNumbers(), 3, 6, -6) {
		checkRound(t, "a number that is none", g, f, -1, bad)
		checkRound(t, "a number that is none, at last", g, f, -1, 0, bad)
		checkRound(t, "a number that is none, at first", g, f, -1, bad, 0)
		checkRound(t, "a number that is none, between", g, f, -1, 0, bad, 1)
		checkRound(t, "a number that is none, twice", g, f, -1, bad, bad)
	}
	checkRound(t, "a number without Tasks", g, fleet(2), -1, 0)
	checkRound(t, "the same twice", g, f, -1, 1, 1)
	checkRound(t, "the same twice, apart", g, f, -1, 0, 1, 0)
	checkRound(t, "the same twice at the end", g, f, -1, 0, 1, 1)
	checkRound(t, "the same twice of the last", g, f, -1, 2, 0, 2)
	checkRound(t, "longer than there are Tasks", g, f, -1, 0, 1, 2, 0)
	checkRound(t, "longer than there are Tasks, by one beyond", g, f, -1, 0, 1, 2, 3)
	checkRound(t, "longer than there may be Tasks", g, fleet(1, tasksAt(1, 1, 1, 1, 1, 1)...), -1, 0, 1, 2, 3, 4, 5, 0)
	checkRound(t, "longer than there may be Tasks, by one beyond", g, fleet(1, tasksAt(1, 1, 1, 1, 1, 1)...), -1, 0, 1, 2, 3, 4, 5, 6)
	checkRound(t, "very long", g, f, -1, make([]int64, 1<<20)...)
	checkRound(t, "very long, of all numbers", g, f, -1, manyNumbers(1<<20)...)
}

func TestRoundsWithLoads(t *testing.T) {
	g := spokes(3, 4, 5)
	f := fleet(1, loaded(1, 6), loaded(2, 4), loaded(3, 1))
	checkRound(t, "one, exactly Room", g, withRoom(f, 6), 6, 0)
	checkRound(t, "one, one more", g, withRoom(f, 5), -1, 0)
	checkRound(t, "two, exactly Room", g, withRoom(f, 10), 14, 0, 1)
	checkRound(t, "two, one more", g, withRoom(f, 9), -1, 0, 1)
	checkRound(t, "two, one more, turned round", g, withRoom(f, 9), -1, 1, 0)
	checkRound(t, "the other two", g, withRoom(f, 9), 16, 0, 2)
	checkRound(t, "three, exactly Room", g, withRoom(f, 11), 24, 2, 0, 1)
	checkRound(t, "three, one more", g, withRoom(f, 10), -1, 2, 0, 1)
	checkRound(t, "no Room, no Load", g, withRoom(fleet(1, task(1), task(2)), 0), 14, 0, 1)
	checkRound(t, "no Room, a Load", g, withRoom(fleet(1, task(1), loaded(2, 1)), 0), -1, 0, 1)
	checkRound(t, "no Room, a Load that is left", g, withRoom(fleet(1, task(1), loaded(2, 1)), 0), 6, 0)
	full := slices.Repeat([]impl.Task{loaded(1, 1000)}, 6)
	checkRound(t, "as much as may be", g, withRoom(fleet(1, full...), 6000), 6, 0, 1, 2, 3, 4, 5)
	checkRound(t, "as much as may be, one more", g, withRoom(fleet(1, full...), 5999), -1, 0, 1, 2, 3, 4, 5)
}

func TestRoundsInTime(t *testing.T) {
	g := lane(6, 10)
	checkRound(t, "exactly at Close", g, fleet(1, during(1, 0, 10, 0)), 20, 0)
	checkRound(t, "one later", g, fleet(1, during(1, 0, 9, 0)), -1, 0)
	checkRound(t, "exactly at Open and Close", g, fleet(1, during(1, 10, 10, 0)), 20, 0)
	checkRound(t, "one waits one till Open and Close", g, fleet(1, during(1, 11, 11, 0)), 20, 0)
	checkRound(t, "Start counts: exactly at Close", g, withStart(fleet(1, during(1, 0, 10, 0)), 0), 20, 0)
	checkRound(t, "Start counts: one later", g, withStart(fleet(1, during(1, 0, 10, 0)), 1), -1, 0)
	checkRound(t, "the last start in time", g, withStart(fleet(1, task(1)), 1000000-10), 20, 0)
	checkRound(t, "a start one later", g, withStart(fleet(1, task(1)), 1000000-9), -1, 0)
	checkRound(t, "the last start of all, at the Depot", g, withStart(fleet(1, task(0)), 1000000), 0, 0)
	two := func(first impl.Task, closes int64) impl.Fleet { return fleet(1, first, during(2, 0, closes, 0)) }
	checkRound(t, "the second exactly at Close", g, two(task(1), 20), 40, 0, 1)
	checkRound(t, "the second one later", g, two(task(1), 19), -1, 0, 1)
	checkRound(t, "the second first", g, two(task(1), 20), 40, 1, 0)
	checkRound(t, "at Open, if one is earlier", g, two(during(1, 100, 200, 0), 110), 40, 0, 1)
	checkRound(t, "one waits too long", g, two(during(1, 101, 200, 0), 110), -1, 0, 1)
	checkRound(t, "one does not wait", g, two(during(1, 10, 200, 0), 20), 40, 0, 1)
	checkRound(t, "Open has long been", g, two(during(1, 5, 200, 0), 20), 40, 0, 1)
	checkRound(t, "Open has long been, time does not go back", g, two(during(1, 5, 200, 0), 19), -1, 0, 1)
	checkRound(t, "one stays", g, two(during(1, 0, 10, 7), 27), 40, 0, 1)
	checkRound(t, "one stays too long", g, two(during(1, 0, 10, 8), 27), -1, 0, 1)
	checkRound(t, "one waits and stays", g, two(during(1, 100, 100, 7), 117), 40, 0, 1)
	checkRound(t, "one waits and stays too long", g, two(during(1, 100, 100, 8), 117), -1, 0, 1)
	checkRound(t, "a Stay beyond Close", g, fleet(1, during(1, 0, 10, 100000)), 20, 0)
	checkRound(t, "a Stay beyond every Close", g, fleet(1, during(1, 1000000, 1000000, 100000)), 20, 0)
	checkRound(t, "nothing behind that", g, fleet(1, during(1, 1000000, 1000000, 1), task(1)), -1, 0, 1)
	checkRound(t, "one behind that without a Stay", g, fleet(1, during(1, 1000000, 1000000, 0), task(1)), 20, 0, 1)
	checkRound(t, "the way back may last", g, fleet(1, during(5, 0, 50, 0)), 100, 0)
}

func TestRoundsToSomePlaces(t *testing.T) {
	g := lane(6, 10)
	checkRound(t, "at the Depot", g, fleet(1, task(0)), 0, 0)
	checkRound(t, "at the Depot, too late", g, withStart(fleet(1, during(0, 0, 4, 0)), 5), -1, 0)
	checkRound(t, "at the Depot, just in time", g, withStart(fleet(1, during(0, 0, 5, 0)), 5), 0, 0)
	checkRound(t, "by the Depot", g, fleet(1, task(1), task(0), task(2)), 10+10+20+20, 0, 1, 2)
	checkRound(t, "two at one place", g, fleet(1, task(3), task(3)), 60, 1, 0)
	checkRound(t, "two at one place, with a Stay", g, fleet(1, during(3, 0, 30, 5), during(3, 0, 35, 0)), 60, 0, 1)
	checkRound(t, "two at one place, with too long a Stay", g, fleet(1, during(3, 0, 30, 5), during(3, 0, 34, 0)), -1, 0, 1)
	checkRound(t, "six at the Depot", g, fleet(1, tasksAt(0, 0, 0, 0, 0, 0)...), 0, 5, 4, 3, 2, 1, 0)
	// A Road from a place to itself is not driven.
	checkRound(t, "one place alone", loops(3), fleet(1, task(0), task(0)), 0, 0, 1)
}

func TestRoundsThatCantBeDriven(t *testing.T) {
	// One way from 0 by 1 and 2 to 0; one way from 0 to 3; one way from 4 to 0; 5 and 6 lead there and back alone.
	g := onOnePoint(7, timed(0, 1, 2), timed(1, 2, 3), timed(2, 0, 4), timed(0, 3, 5), timed(4, 0, 6), timed(5, 6, 7), timed(6, 5, 8))
	f := fleet(1, tasksAt(1, 2, 3, 4, 5, 6)...)
	checkRound(t, "round", g, f, 9, 0, 1)
	checkRound(t, "twice round", g, f, (2+3)+(4+2)+(3+4), 1, 0)
	checkRound(t, "no way back", g, f, -1, 2)
	checkRound(t, "no way back from the last", g, f, -1, 0, 1, 2)
	checkRound(t, "no way on", g, f, -1, 2, 0, 1)
	checkRound(t, "no way there", g, f, -1, 3)
	checkRound(t, "no way there, behind others", g, f, -1, 0, 1, 3)
	checkRound(t, "no way there, ahead of others", g, f, -1, 3, 0, 1)
	checkRound(t, "neither way", g, f, -1, 4)
	checkRound(t, "neither way, but from the one to the other", g, f, -1, 4, 5)
	f.Depot = 5
	checkRound(t, "from the other side", g, f, 15, 5)
	checkRound(t, "from the other side, at the Depot", g, f, 15, 4, 5)
	checkRound(t, "from the other side, no way", g, f, -1, 0)
	checkRound(t, "no Roads at all", manyPlaces(3), fleet(1, task(0), task(1)), 0, 0)
	checkRound(t, "no Roads at all", manyPlaces(3), fleet(1, task(0), task(1)), -1, 1)
	// From place 1 one may not turn into the Road to place 2.
	turn := withBans(spokes(3, 4), ban(0, 3))
	checkRound(t, "a forbidden turn on the way", turn, fleet(1, task(1), task(2)), -1, 0, 1)
	checkRound(t, "the other way round", turn, fleet(1, task(1), task(2)), 14, 1, 0)
	checkRound(t, "one alone", turn, fleet(1, task(1), task(2)), 6, 0)
}

// What is not in the round, and how many vehicles there are, is all the same to it.
func TestRoundsByThemselves(t *testing.T) {
	g := lane(6, 10)
	g.Places = append(g.Places, spotAt(100, 0, 0))
	f := fleet(1, task(1), task(6), during(5, 0, 0, 0), loaded(2, 1000))
	f.Room = 999
	for vehicles := range int64(4) {
		checkRound(t, "others can't be gone to", g, withVehicles(f, vehicles+1), 20, 0)
	}
	for task := range int64(3) {
		checkRound(t, "one of the others", g, f, -1, task+1)
		checkRound(t, "with one of the others", g, f, -1, 0, task+1)
	}
}
