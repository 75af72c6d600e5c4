package tests

import (
	"math/rand"
	"slices"
	"testing"

	"loop.example/g00024/impl"
)

// task is at a place, weighs nothing, and may be gone to at any time.
func task(place int64) impl.Task { return impl.Task{Spot: place, Close: impl.MaxTime} }

func loaded(place int64, load int64) impl.Task {
	return impl.Task{Spot: place, Load: load, Close: impl.MaxTime}
}

func during(place int64, opens int64, closes int64, stay int64) impl.Task {
	return impl.Task{Spot: place, Open: opens, Close: closes, Stay: stay}
}

// fleet sets out from place 0 at 0, with as much room as may be.
func fleet(vehicles int64, tasks ...impl.Task) impl.Fleet {
	return impl.Fleet{Vehicles: vehicles, Room: 10000, Tasks: tasks}
}

func withRoom(f impl.Fleet, room int64) impl.Fleet {
	f.Room = room
	return f
}

func withStart(f impl.Fleet, start int64) impl.Fleet {
	f.Start = start
	return f
}

func withVehicles(f impl.Fleet, vehicles int64) impl.Fleet {
	f.Vehicles = vehicles
	return f
}

// tasksAt has one at each of these places.
func tasksAt(places ...int64) []impl.Task {
	var tasks []impl.Task
	for _, p := range places {
		tasks = append(tasks, task(p))
	}
	return tasks
}

// spokes has place 0 in the middle, and from it to the places 1, 2 and so on, and back, Roads of these Times. As no Road has a wind, a round
// takes what its Tasks take one by one, whatever their order.
func spokes(times ...int64) impl.Graph {
	return hub(len(times), func(int64) impl.Point { return at(0, 0) }, func(i int64) int64 { return times[i] })
}

// badFleet is one that can't be for spokes(3, 4), and why.
type badFleet struct {
	name  string
	fleet impl.Fleet
}

// badFleets are each alone spoiled by one thing, but are as some round or plan of it would ask for.
func badFleets() []badFleet {
	var all []badFleet
	put := func(name string, spoil func(f *impl.Fleet)) {
		f := fleet(2, task(1), task(2))
		spoil(&f)
		all = append(all, badFleet{name, f})
	}
	for _, n := range append(farNumbers(), 3) {
		put("a Depot that is no place", func(f *impl.Fleet) { f.Depot = n })
		put("a first Spot that is no place", func(f *impl.Fleet) { f.Tasks[0].Spot = n })
		put("a last Spot that is no place", func(f *impl.Fleet) { f.Tasks[1].Spot = n })
	}
	for _, field := range fleetFields() {
		for _, n := range append(farNumbers()[:2], field.least-1, field.most+1, farNumbers()[4]) {
			put(field.name, func(f *impl.Fleet) { *field.of(f) = n })
		}
	}
	put("Open above Close", func(f *impl.Fleet) { f.Tasks[0].Open, f.Tasks[0].Close = 11, 10 })
	put("a last Open above Close", func(f *impl.Fleet) { f.Tasks[1].Open, f.Tasks[1].Close = 1, 0 })
	put("a Task too many", func(f *impl.Fleet) { f.Tasks = tasksAt(1, 2, 1, 2, 1, 2, 1) })
	return all
}

// fleetField is a number of a fleet, with its bounds.
type fleetField struct {
	name  string
	least int64
	most  int64
	of    func(f *impl.Fleet) *int64
}

func fleetFields() []fleetField {
	fields := []fleetField{
		{"Start", 0, 1000000, func(f *impl.Fleet) *int64 { return &f.Start }},
		{"Vehicles", 1, 4, func(f *impl.Fleet) *int64 { return &f.Vehicles }},
		{"Room", 0, 10000, func(f *impl.Fleet) *int64 { return &f.Room }},
	}
	for i := range 2 {
		fields = append(fields,
			fleetField{"Load", 0, 1000, func(f *impl.Fleet) *int64 { return &f.Tasks[i].Load }},
			fleetField{"Open", 0, 1000000, func(f *impl.Fleet) *int64 { return &f.Tasks[i].Open }},
			fleetField{"Close", 0, 1000000, func(f *impl.Fleet) *int64 { return &f.Tasks[i].Close }},
			fleetField{"Stay", 0, 100000, func(f *impl.Fleet) *int64 { return &f.Tasks[i].Stay }})
	}
	return fields
}

func samePlan(a impl.Plan, b impl.Plan) bool {
	return a.Found == b.Found && a.Time == b.Time && slices.EqualFunc(a.Rounds, b.Rounds, slices.Equal[[]int64])
}

func checkFleetOk(t *testing.T, name string, g impl.Graph, f impl.Fleet, want bool) {
	t.Helper()
	if got := impl.FleetOk(g, f); got != want {
		t.Error(name, f, "gives", got)
	}
}

func checkRound(t *testing.T, name string, g impl.Graph, f impl.Fleet, want int64, round ...int64) {
	t.Helper()
	if got := impl.RoundTime(g, f, round); got != want {
		t.Error(name, short(round), "gives", got, "and not", want, short(f))
	}
}

func checkPlanTime(t *testing.T, name string, g impl.Graph, f impl.Fleet, want int64, plan ...[]int64) {
	t.Helper()
	if got := impl.PlanTime(g, f, plan); got != want {
		t.Error(name, short(plan), "gives", got, "and not", want, short(f))
	}
}

func checkPlan(t *testing.T, name string, got impl.Plan, want impl.Plan) {
	t.Helper()
	if !samePlan(got, want) {
		t.Error(name, "gives", short(got), "and not", short(want))
	}
}

// checkBestPlan wants these rounds, and that PlanTime says just that time of them.
func checkBestPlan(t *testing.T, name string, g impl.Graph, f impl.Fleet, time int64, rounds ...[]int64) {
	t.Helper()
	checkPlan(t, name, impl.BestPlan(g, f), impl.Plan{Found: true, Rounds: rounds, Time: time})
	checkPlanTime(t, name, g, f, time, rounds...)
}

func checkNoPlan(t *testing.T, name string, g impl.Graph, f impl.Fleet) {
	t.Helper()
	checkPlan(t, name, impl.BestPlan(g, f), impl.Plan{})
}

// someTown is a graph in which one can drive from most places to most others: all by one in the middle, where turning costs or does not,
// or as it comes.
func someTown(r *rand.Rand, places int) impl.Graph {
	wide, most := pick(r, int64(0), 1, 10), pick(r, int64(1), 2, 9)
	around := func(int64) impl.Point { return somewhere(r, wide) }
	switch r.Intn(3) {
	case 0:
		return someStreets(r, places, places*(2+r.Intn(3)))
	case 1:
		return hub(places-1, around, func(int64) int64 { return most })
	}
	return hub(places-1, around, func(int64) int64 { return 1 + r.Int63n(most) })
}

// someFleet is one that can be: of its Tasks some are at one place, some close early, and some weigh much.
func someFleet(r *rand.Rand, places int64, tasks int) impl.Fleet {
	f := impl.Fleet{Depot: r.Int63n(places), Start: r.Int63n(4), Vehicles: 1 + r.Int63n(4), Room: pick(r, int64(0), 6, 10, 10, 20)}
	if r.Intn(2) == 0 {
		f.Depot = 0
	}
	heavy, wide := pick(r, int64(0), 3, 6, 6), pick(r, int64(12), 30, 90)
	for range tasks {
		k := impl.Task{Spot: r.Int63n(places), Load: r.Int63n(min(f.Room, heavy) + 1), Close: impl.MaxTime}
		if r.Intn(4) == 0 {
			k.Close = r.Int63n(wide)
			k.Open = r.Int63n(k.Close + 1)
		}
		if r.Intn(4) == 0 {
			k.Stay = r.Int63n(20)
		}
		f.Tasks = append(f.Tasks, k)
	}
	return f
}
