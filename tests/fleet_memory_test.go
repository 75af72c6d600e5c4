package tests

import (
	"runtime"
	"slices"
	"sync"
	"testing"
	"time"

	"loop.example/g00024/impl"
)

// Promise 19, of chapter 14: every function answers at every argument and none panics; answers are new memory; arguments stay.

type graphAndFleet struct {
	Graph impl.Graph
	Fleet impl.Fleet
	Round []int64
	Plan  [][]int64
}

func askFleetOk(a graphAndFleet) bool { return impl.FleetOk(a.Graph, a.Fleet) }

func askRound(a graphAndFleet) int64 { return impl.RoundTime(a.Graph, a.Fleet, a.Round) }

func askPlanTime(a graphAndFleet) int64 { return impl.PlanTime(a.Graph, a.Fleet, a.Plan) }

func askBestPlan(a graphAndFleet) impl.Plan { return impl.BestPlan(a.Graph, a.Fleet) }

// fleetsToGuard are of each kind for a graph of so many places: with Tasks and without, by chance, and such as can't be.
func fleetsToGuard(places int) []impl.Fleet {
	tell := numbers(168)
	last := int64(places) - 1
	fleets := []impl.Fleet{
		{}, fleet(1), {Vehicles: 2, Tasks: []impl.Task{}}, fleet(1, task(0)), fleet(4, tasksAt(0, last, 0)...), fleet(3, task(last+1), task(0)),
		withRoom(fleet(4, loaded(0, 5), loaded(last, 5), loaded(0, 5)), 10), withRoom(fleet(2, loaded(0, 1)), 0),
		fleet(4, tasksAt(0, 0, 0, 0, 0, 0, 0)...), fleet(5, task(0)), fleet(1, during(0, 1, 0, 0)),
	}
	for tasks := range 5 {
		fleets = append(fleets, someFleet(tell, max(1, int64(places)), tasks))
	}
	return fleets
}

func TestGraphsStayAndPlansAreNew(t *testing.T) {
	rounds := [][]int64{nil, {}, {0}, {1, 0}, {2, 1, 0}, {0, 0}, {-1}, {0, 7}}
	plans := [][][]int64{nil, {}, {{0}}, {{0, 1}}, {{0}, {1}}, {{1}, {0}}, {{0, 2}, {1}}, {{0, 1, 2}}, {{}, {0}}, {nil, nil, nil, nil, nil}}
	found := 0
	for _, g := range streetsToGuard() {
		for _, f := range fleetsToGuard(len(g.Places)) {
			checkMemory(t, "FleetOk", graphAndFleet{Graph: g, Fleet: f}, askFleetOk)
			checkMemory(t, "BestPlan", graphAndFleet{Graph: g, Fleet: f}, askBestPlan)
			found += count(len(impl.BestPlan(g, f).Rounds) > 1)
			if len(g.Roads) > 100 {
				continue
			}
			for _, round := range rounds {
				checkMemory(t, "RoundTime", graphAndFleet{Graph: g, Fleet: f, Round: round}, askRound)
			}
			for _, plan := range plans {
				checkMemory(t, "PlanTime", graphAndFleet{Graph: g, Fleet: f, Plan: plan}, askPlanTime)
			}
		}
	}
	if found < 50 {
		t.Error("too few have more than one round:", found)
	}
}

// What was told before stays as it was, whatever is done to the arguments and to what is told later.
func TestPlansDoNotFollow(t *testing.T) {
	g := withBans(spokes(3, 4, 5), ban(0, 3))
	f := withRoom(fleet(3, loaded(1, 4), loaded(2, 6), loaded(3, 6)), 10)
	first := impl.BestPlan(g, f)
	later := impl.BestPlan(g, f)
	for _, round := range later.Rounds {
		clear(round)
		_ = append(round, 7, 7, 7)
	}
	clear(later.Rounds)
	_ = append(later.Rounds, to(9), to(9))
	want := impl.Plan{Found: true, Rounds: [][]int64{to(0, 2), to(1)}, Time: 24}
	checkPlan(t, "told before", first, want)
	// Not one round may be in the way of another.
	for i, round := range first.Rounds {
		_ = append(round, 8, 8, 8)
		checkPlan(t, "told before", first, want)
		first.Rounds[i] = append(round, 5)
		want.Rounds[i] = append(slices.Clone(want.Rounds[i]), 5)
		checkPlan(t, "told before", first, want)
	}
	clear(g.Places)
	clear(g.Roads)
	clear(g.Bans)
	clear(f.Tasks)
	checkPlan(t, "told before", first, want)
}

func TestFleetsOfEveryKindAreAnswered(t *testing.T) {
	tell := numbers(169)
	good, found, rounds, plans := map[bool]int{}, map[bool]int{}, 0, 0
	for range 20000 {
		number := func() int64 {
			if tell.Intn(140) > 0 {
				return tell.Int63n(3)
			}
			return pick(tell, append(strange(), 4, 5, 1000, 1001, 10000, 10001, 100000, 100001, 1000000, 1000001)...)
		}
		g := someWildGraph(number, 3, 2+tell.Intn(5), tell.Intn(6)/5)
		f := impl.Fleet{Depot: number(), Start: number(), Vehicles: 1 + number(), Room: 3 + number()}
		for range tell.Intn(4) {
			f.Tasks = append(f.Tasks, impl.Task{Spot: number(), Load: number(), Open: number(), Close: 2 + 20*number(), Stay: number()})
		}
		list := func() []int64 { return []int64{number(), number(), number()}[:tell.Intn(4)] }
		round, plan := list(), [][]int64{list(), list()}[:tell.Intn(3)]
		ok := fleetCanBe(g, f)
		good[ok]++
		checkFleetOk(t, "strange", g, f, ok)
		time := roundTimeOf(g, f, round)
		checkRound(t, "strange", g, f, time, round...)
		rounds += count(time >= 0)
		time = planTimeOf(g, f, plan)
		checkPlanTime(t, "strange", g, f, time, plan...)
		plans += count(time >= 0)
		told := bestPlanOf(g, f)
		checkPlan(t, "strange", impl.BestPlan(g, f), told)
		found[told.Found]++
		if t.Failed() {
			t.Fatal(g, f, round, plan)
		}
	}
	if good[true] < 3000 || good[false] < 3000 || found[true] < 2000 || found[false] < 2000 || rounds < 200 || plans < 200 {
		t.Error("too few of a kind:", good, found, rounds, plans)
	}
}

func TestGreatListsAreAnswered(t *testing.T) {
	for _, g := range []impl.Graph{{Places: make([]impl.Spot, 1<<20)}, {Roads: make([]impl.Road, 1<<20)}, {Bans: make([]impl.Ban, 1<<20)}} {
		checkFleetOk(t, "a great list", g, fleet(1), false)
		checkRound(t, "a great list", g, fleet(1, task(0)), -1, 0)
		checkPlanTime(t, "a great list", g, fleet(1), -1)
		checkNoPlan(t, "a great list", g, fleet(1))
	}
	g, f := lane(3, 1), fleet(4, make([]impl.Task, 1<<20)...)
	checkFleetOk(t, "many Tasks", g, f, false)
	checkRound(t, "many Tasks", g, f, -1, manyNumbers(1<<20)...)
	checkPlanTime(t, "many Tasks", g, f, -1, manyNumbers(1<<20))
	checkNoPlan(t, "many Tasks", g, f)
}

func TestTheSamePlansAreAnsweredAgain(t *testing.T) {
	tell := numbers(170)
	for range 300 {
		places := 2 + tell.Intn(5)
		g := someTown(tell, places)
		f := someFleet(tell, int64(places), tell.Intn(5))
		plan, all := impl.BestPlan(g, f), manyNumbers(int64(len(f.Tasks)))
		round, whole := impl.RoundTime(g, f, all), impl.PlanTime(g, f, [][]int64{all})
		impl.BestPlan(star(), fleet(4, tasksAt(1, 3, 5, 7)...))
		impl.BestPlan(spokes(1, 2), fleet(4, task(1), during(2, 0, 0, 0)))
		impl.PlanTime(spokes(1, 2), fleet(2, task(1), task(2)), [][]int64{{0}, {1}})
		for range 3 {
			checkPlan(t, "again", impl.BestPlan(g, f), plan)
			checkRound(t, "again", g, f, round, all...)
			checkPlanTime(t, "again", g, f, whole, all)
		}
	}
}

// However goroutines run, by themselves and beside those of other calls, the answers are the same.
func TestPlansAreTheSameHoweverTheyRun(t *testing.T) {
	defer runtime.GOMAXPROCS(runtime.GOMAXPROCS(0))
	tell := numbers(171)
	for range 6 {
		g := someTown(tell, 7)
		f := someFleet(tell, 7, 4)
		plan, all := bestPlanOf(g, f), manyNumbers(4)
		round := roundTimeOf(g, f, all)
		for _, processors := range []int{1, 2, 8} {
			runtime.GOMAXPROCS(processors)
			var open sync.WaitGroup
			for range 8 {
				open.Go(func() {
					checkPlan(t, "side by side", impl.BestPlan(g, f), plan)
					checkRound(t, "side by side", g, f, round, all...)
					checkPlanTime(t, "side by side", g, f, round, all)
				})
			}
			open.Wait()
		}
	}
}

// What a call has begun has ended when it answers: none of its goroutines is left.
func TestPlansLeaveNothingRunning(t *testing.T) {
	g, f := lane(60, 3), fleet(4, tasksAt(5, 59, 30, 7, 7, 0)...)
	before := runtime.NumGoroutine()
	for range 100 {
		impl.BestPlan(g, f)
		impl.RoundTime(g, f, to(3, 1))
		impl.PlanTime(g, f, [][]int64{to(0, 1, 2, 3, 4, 5)})
	}
	// A goroutine that has said that it is done may need a moment more to be gone.
	for range 1000 {
		if runtime.NumGoroutine() <= before {
			return
		}
		time.Sleep(time.Millisecond)
	}
	t.Error(runtime.NumGoroutine(), "goroutines run, and not", before)
}
