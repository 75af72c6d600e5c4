package tests

import (
	"slices"
	"testing"

	"loop.example/g00024/impl"
)

// Promise 14, of PlanTime and BestPlan: a plan is feasible and takes least.

// to is a round.
func to(tasks ...int64) []int64 { return tasks }

func TestPlanTime(t *testing.T) {
	g := lane(6, 10)
	f := fleet(3, tasksAt(2, 5, 1)...)
	checkPlanTime(t, "one round", g, f, 100, to(0, 1, 2))
	checkPlanTime(t, "one round, otherwise", g, f, 120, to(0, 2, 1))
	checkPlanTime(t, "one round that begins with the last", g, f, 100, to(2, 1, 0))
	checkPlanTime(t, "two rounds", g, f, 40+100, to(0, 2), to(1))
	checkPlanTime(t, "two rounds, the second of two", g, f, 40+100, to(0), to(1, 2))
	checkPlanTime(t, "two rounds, a lesser number behind", g, f, 100+20, to(1, 0), to(2))
	checkPlanTime(t, "three rounds", g, f, 40+100+20, to(0), to(1), to(2))
	checkPlanTime(t, "one Task", g, fleet(1, task(3)), 60, to(0))
	checkPlanTime(t, "one Task at the Depot", g, fleet(1, task(0)), 0, to(0))
}

func TestPlansThatAreEmpty(t *testing.T) {
	g := lane(6, 10)
	for _, none := range [][][]int64{nil, {}} {
		checkPlanTime(t, "without Tasks", g, fleet(1), 0, none...)
		checkPlanTime(t, "with a Task", g, fleet(1, task(1)), -1, none...)
		checkPlanTime(t, "with a Task at the Depot", g, fleet(4, task(0)), -1, none...)
		checkPlanTime(t, "with six Tasks", g, fleet(4, tasksAt(1, 2, 3, 4, 5, 1)...), -1, none...)
		checkPlanTime(t, "without Vehicles", g, fleet(0), -1, none...)
		checkPlanTime(t, "without places", impl.Graph{}, fleet(1), -1, none...)
	}
	for _, none := range [][]int64{nil, {}} {
		checkPlanTime(t, "an empty round without Tasks", g, fleet(1), -1, none)
		checkPlanTime(t, "an empty round alone", g, fleet(2, task(1)), -1, none)
		checkPlanTime(t, "an empty round ahead", g, fleet(2, task(1)), -1, none, to(0))
		checkPlanTime(t, "an empty round behind", g, fleet(2, task(1)), -1, to(0), none)
		checkPlanTime(t, "an empty round between", g, fleet(3, task(1), task(2)), -1, to(0), none, to(1))
		checkPlanTime(t, "empty rounds", g, fleet(4, task(1), task(2)), -1, none, none, none)
	}
	checkPlanTime(t, "a number without Tasks", g, fleet(1), -1, to(0))
}

func TestPlansOfAsManyRoundsAsMayBe(t *testing.T) {
	g := spokes(1, 2, 3, 4, 5)
	f := fleet(1, tasksAt(1, 2, 3, 4, 5)...)
	plans := [][][]int64{{to(0, 1, 2, 3, 4)}, {to(0, 1, 2, 3), to(4)}, {to(0, 1, 2), to(3), to(4)}, {to(0, 1), to(2), to(3), to(4)}}
	for i, plan := range plans {
		for vehicles := range int64(4) {
			want := int64(30)
			if int64(i) > vehicles {
				want = -1
			}
			checkPlanTime(t, "so many rounds", g, withVehicles(f, vehicles+1), want, plan...)
		}
	}
	checkPlanTime(t, "more than there may be vehicles", g, withVehicles(f, 4), -1, to(0), to(1), to(2), to(3), to(4))
	checkPlanTime(t, "very many", g, withVehicles(f, 4), -1, make([][]int64, 1<<20)...)
	checkPlanTime(t, "very long", g, withVehicles(f, 4), -1, make([]int64, 1<<20), make([]int64, 1<<20))
	checkPlanTime(t, "very long, of all numbers", g, withVehicles(f, 4), -1, manyNumbers(1<<20))
}

func TestPlansWithEachTaskInJustOneRound(t *testing.T) {
	g := spokes(1, 2, 3)
	f := fleet(4, tasksAt(1, 2, 3)...)
	checkPlanTime(t, "each in one", g, f, 12, to(0), to(1, 2))
	checkPlanTime(t, "in two rounds", g, f, -1, to(0, 1), to(1, 2))
	checkPlanTime(t, "in two rounds, as the first of both", g, f, -1, to(0, 1), to(0, 2))
	checkPlanTime(t, "in two rounds, the same ones", g, f, -1, to(0, 1, 2), to(0, 1, 2))
	checkPlanTime(t, "in two rounds, another in none", g, f, -1, to(0), to(1, 0))
	checkPlanTime(t, "in three rounds", g, f, -1, to(0, 2), to(1, 2), to(2))
	checkPlanTime(t, "the first in none", g, f, -1, to(1, 2))
	checkPlanTime(t, "the middle in none", g, f, -1, to(0), to(2))
	checkPlanTime(t, "the last in none", g, f, -1, to(0, 1))
	checkPlanTime(t, "twice in one", g, f, -1, to(0, 1, 1, 2))
	checkPlanTime(t, "twice in one, another in none", g, f, -1, to(0, 1, 1))
	checkPlanTime(t, "twice in one, apart", g, f, -1, to(0, 1, 0), to(2))
	for _, bad := range append(farNumbers(), 3) {
		checkPlanTime(t, "another number", g, f, -1, to(0, 1, 2, bad))
		checkPlanTime(t, "another number in the place of one", g, f, -1, to(0, 1, bad))
		checkPlanTime(t, "another number by itself", g, f, -1, to(0, 1, 2), to(bad))
		checkPlanTime(t, "another number by itself, ahead", g, f, -1, to(bad), to(0, 1, 2))
	}
}

func TestPlansAreAscending(t *testing.T) {
	g := spokes(1, 2, 3)
	f := fleet(4, tasksAt(1, 2, 3)...)
	checkPlanTime(t, "ascending", g, f, 12, to(0), to(1), to(2))
	checkPlanTime(t, "ascending by their first numbers alone", g, f, 12, to(1, 0), to(2))
	checkPlanTime(t, "ascending, not by their last numbers", g, f, 12, to(0, 2), to(1))
	for _, plan := range [][][]int64{
		{to(1), to(0), to(2)}, {to(0), to(2), to(1)}, {to(2), to(1), to(0)}, {to(1), to(2), to(0)}, {to(2), to(0), to(1)},
		{to(1, 2), to(0)}, {to(2), to(1, 0)}, {to(2), to(0, 1)}, {to(1), to(0, 2)}, {to(2, 0), to(1)},
	} {
		checkPlanTime(t, "not ascending", g, f, -1, plan...)
	}
}

func TestPlansOfRoundsThatCantBe(t *testing.T) {
	g := lane(6, 10)
	f := fleet(3, loaded(1, 6), loaded(2, 5), during(3, 0, 30, 0))
	checkPlanTime(t, "each by itself", g, f, 20+40+60, to(0), to(1), to(2))
	checkPlanTime(t, "exactly Room", g, withRoom(f, 11), 40+60, to(0, 1), to(2))
	checkPlanTime(t, "more than Room", g, withRoom(f, 10), -1, to(0, 1), to(2))
	checkPlanTime(t, "more than Room in all", g, withRoom(f, 6), 20+40+60, to(0), to(1), to(2))
	checkPlanTime(t, "too much for one", g, withRoom(f, 5), -1, to(0), to(1), to(2))
	checkPlanTime(t, "in time", g, f, 60, to(0, 1, 2))
	checkPlanTime(t, "too late in the last", g, withStart(f, 1), -1, to(0), to(1), to(2))
	checkPlanTime(t, "too late in the first", g, f, -1, to(1, 0, 2))
	f.Tasks[0].Close = 9
	checkPlanTime(t, "too late in the first of several", g, f, -1, to(0), to(1), to(2))
	// Each round sets out at Start: none waits for the one ahead.
	f = fleet(4, during(1, 0, 10, 100000), during(2, 0, 20, 100000), during(3, 0, 30, 100000), during(4, 0, 40, 100000))
	checkPlanTime(t, "all at once", g, f, 20+40+60+80, to(0), to(1), to(2), to(3))
	checkPlanTime(t, "two one after the other", g, f, -1, to(0, 1), to(2), to(3))
}

func TestBestPlanOfFewTasks(t *testing.T) {
	g := lane(6, 10)
	for vehicles := range int64(4) {
		checkBestPlan(t, "no Tasks", g, fleet(vehicles+1), 0)
		checkBestPlan(t, "one Task", g, fleet(vehicles+1, task(3)), 60, to(0))
		checkBestPlan(t, "one Task at the Depot", g, fleet(vehicles+1, task(0)), 0, to(0))
		checkBestPlan(t, "two Tasks by the way", g, fleet(vehicles+1, task(5), task(3)), 100, to(0, 1))
	}
	checkBestPlan(t, "no Tasks and no Roads", manyPlaces(1), fleet(4), 0)
	checkBestPlan(t, "no Tasks, an empty list", g, impl.Fleet{Vehicles: 1, Tasks: []impl.Task{}}, 0)
	checkNoPlan(t, "one that closes too early", g, fleet(4, during(3, 0, 29, 0)))
	checkNoPlan(t, "one that weighs too much", g, withRoom(fleet(4, loaded(3, 6)), 5))
	checkNoPlan(t, "one that can't be reached", manyPlaces(2), fleet(4, task(1)))
	checkNoPlan(t, "one from which there is no way back", onOnePoint(2, timed(0, 1, 1)), fleet(4, task(1)))
	checkNoPlan(t, "one of several", g, fleet(4, task(1), during(3, 0, 29, 0), task(2)))
}

func TestBestPlanOfWhatCantBe(t *testing.T) {
	checkNoPlan(t, "nothing", impl.Graph{}, impl.Fleet{})
	checkNoPlan(t, "no places", impl.Graph{}, fleet(1))
	checkNoPlan(t, "no Vehicles", spokes(1), fleet(0))
	checkNoPlan(t, "a Task too many", spokes(1), fleet(4, tasksAt(1, 1, 1, 1, 1, 1, 1)...))
	checkBestPlan(t, "as many as may be", spokes(1), fleet(4, tasksAt(1, 1, 1, 1, 1, 1)...), 2, to(0, 1, 2, 3, 4, 5))
}

// The least time counts first: more rounds may take less.
func TestBestPlanTakesLeast(t *testing.T) {
	// Driving through the middle from the east to the north, the one round has to turn: 3 or 5 more.
	checkBestPlan(t, "one vehicle", star(), fleet(1, task(1), task(3)), 7, to(0, 1))
	checkBestPlan(t, "two vehicles", star(), fleet(2, task(1), task(3)), 4, to(0), to(1))
	checkBestPlan(t, "three vehicles", star(), fleet(3, task(1), task(3)), 4, to(0), to(1))
	checkBestPlan(t, "straight through the middle", star(), fleet(2, task(1), task(5)), 4, to(0, 1))
	// East and west, north and south go together.
	f := fleet(4, tasksAt(1, 3, 5, 7)...)
	checkBestPlan(t, "in pairs", star(), f, 8, to(0, 2), to(1, 3))
	checkBestPlan(t, "in pairs, as many vehicles", star(), withVehicles(f, 2), 8, to(0, 2), to(1, 3))
	checkBestPlan(t, "one vehicle", star(), withVehicles(f, 1), 8+3, to(0, 2, 3, 1))
	// One way round: in this order it is once round, otherwise more often.
	round := fleet(4, tasksAt(3, 1, 2)...)
	checkBestPlan(t, "round", block(), round, 4, to(1, 2, 0))
	// Here the order of the numbers would be the longest way.
	checkBestPlan(t, "by the way", lane(6, 10), fleet(4, tasksAt(4, 2, 5, 1)...), 100, to(0, 2, 1, 3))
	checkBestPlan(t, "by the way, closing early", lane(6, 10), fleet(4, task(4), during(2, 0, 20, 0), task(5), task(1)), 100, to(1, 0, 2, 3))
}

// Of those that take as long the fewest rounds.
func TestBestPlanHasFewRounds(t *testing.T) {
	g := spokes(3, 4, 5)
	three := fleet(4, tasksAt(1, 2, 3)...)
	checkBestPlan(t, "all the same", g, three, 24, to(0, 1, 2))
	checkPlanTime(t, "as long with two", g, three, 24, to(0), to(1, 2))
	checkPlanTime(t, "as long with three", g, three, 24, to(0), to(1), to(2))
	checkBestPlan(t, "all the same, one vehicle", g, withVehicles(three, 1), 24, to(0, 1, 2))
	// With one round less its numbers are greater.
	late := fleet(4, during(1, 0, 100, 0), during(2, 0, 4, 0), task(3))
	checkBestPlan(t, "one must be first", g, late, 24, to(1, 0, 2))
	checkBestPlan(t, "at the Depot, all in one", lane(2, 10), fleet(4, tasksAt(0, 0, 0)...), 0, to(0, 1, 2))
	checkBestPlan(t, "at the Depot and elsewhere", lane(2, 10), fleet(4, tasksAt(1, 0, 1)...), 20, to(0, 2, 1))
}

// Of those that take as long and have as many rounds the least numbers, a -1 behind each round.
func TestBestPlanHasTheLeastNumbers(t *testing.T) {
	g := spokes(3, 4, 5, 6)
	loads := func(loads ...int64) impl.Fleet {
		f := withRoom(fleet(4), 10)
		for i, load := range loads {
			f.Tasks = append(f.Tasks, loaded(int64(i+1), load))
		}
		return f
	}
	checkBestPlan(t, "two rounds of three", g, loads(5, 5, 5), 24, to(0), to(1, 2))
	checkBestPlan(t, "two rounds of four", g, loads(5, 5, 5, 5), 36, to(0, 1), to(2, 3))
	checkBestPlan(t, "the first weighs much", g, loads(10, 5, 5), 24, to(0), to(1, 2))
	checkBestPlan(t, "the last weighs much", g, loads(5, 5, 10), 24, to(0, 1), to(2))
	checkBestPlan(t, "the middle weighs much", g, loads(5, 10, 5), 24, to(0, 2), to(1))
	checkBestPlan(t, "together as much as the last", g, loads(1, 4, 6, 10), 36, to(0), to(1, 2), to(3))
	checkBestPlan(t, "two that fit", g, loads(1, 4, 6, 7), 36, to(0, 3), to(1, 2))
	checkBestPlan(t, "one alone, three together", g, loads(4, 3, 3, 3), 36, to(0), to(1, 2, 3))
	checkBestPlan(t, "three rounds", g, loads(6, 6, 6, 1), 36, to(0), to(1), to(2, 3))
	checkBestPlan(t, "four rounds", g, loads(6, 7, 8, 9), 36, to(0), to(1), to(2), to(3))
	checkNoPlan(t, "four rounds, three vehicles", g, withVehicles(loads(6, 7, 8, 9), 3))
	// What closes early comes first, and has a greater number.
	f := fleet(2, task(1), during(2, 0, 4, 0), task(3), during(4, 0, 6, 0))
	checkBestPlan(t, "two that close early", g, f, 36, to(1), to(3, 0, 2))
	f.Tasks[1].Stay = 1000
	f.Tasks[2].Close = 999
	checkBestPlan(t, "two that close early, one stays", g, f, 36, to(1), to(3, 0, 2))
	f.Tasks[3].Stay = 1000
	checkNoPlan(t, "two that close early, both stay", g, f)
	checkBestPlan(t, "two that close early, both stay, a third", g, withVehicles(f, 3), 36, to(0, 2), to(1), to(3))
}

func TestBestPlanOfManyTasks(t *testing.T) {
	g := spokes(1, 2, 3, 4, 5, 6)
	six := tasksAt(1, 2, 3, 4, 5, 6)
	for vehicles := range int64(4) {
		checkBestPlan(t, "six, all the same", g, fleet(vehicles+1, six...), 42, to(0, 1, 2, 3, 4, 5))
		checkBestPlan(t, "six, turned round", lane(7, 10), fleet(vehicles+1, tasksAt(6, 5, 4, 3, 2, 1)...), 120, to(0, 1, 2, 3, 4, 5))
	}
	for room, want := range [][][]int64{
		nil, nil, {to(0, 1), to(2, 3), to(4, 5)}, {to(0, 1, 2), to(3, 4, 5)}, {to(0, 1), to(2, 3, 4, 5)}, {to(0), to(1, 2, 3, 4, 5)}, {to(0, 1, 2, 3, 4, 5)},
	} {
		f := withRoom(fleet(4, six...), int64(room))
		for i := range f.Tasks {
			f.Tasks[i].Load = 1
		}
		if want == nil {
			checkNoPlan(t, "no room", g, f)
			continue
		}
		checkBestPlan(t, "some room", g, withVehicles(f, 4), 42, want...)
		checkBestPlan(t, "as many vehicles as there are rounds", g, withVehicles(f, int64(len(want))), 42, want...)
		if len(want) > 1 {
			checkNoPlan(t, "a vehicle less", g, withVehicles(f, int64(len(want)-1)))
		}
	}
	// Each closes so that it must be gone to in just this order.
	f := fleet(4)
	for _, n := range []int64{4, 2, 6, 1, 5, 3} {
		f.Tasks = append(f.Tasks, during(n, 100*n, 100*n, 0))
	}
	checkBestPlan(t, "by the hours", g, f, 42, to(3, 1, 5, 0, 4, 2))
	checkBestPlan(t, "at one place", spokes(9), fleet(4, slices.Repeat(tasksAt(1), 6)...), 18, to(0, 1, 2, 3, 4, 5))
}
