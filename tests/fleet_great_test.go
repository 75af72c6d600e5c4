package tests

import (
	"math/rand"
	"slices"
	"testing"

	"loop.example/g00024/impl"
)

// Promise 14, of graphs as great as may be and as many Tasks: they are answered, and in a time that a test can wait for.

// checkGreatFleet holds the plan of six Tasks against all others, by the times that Reach tells.
func checkGreatFleet(t *testing.T, name string, g impl.Graph, f impl.Fleet) impl.Plan {
	t.Helper()
	if len(f.Tasks) != impl.MaxTasks || f.Vehicles != 4 {
		t.Fatal(name, len(f.Tasks), "Tasks and", f.Vehicles, "vehicles")
	}
	b, ok := boardOf(g, f, impl.Reach)
	if !ok {
		t.Fatal(name, "no board")
	}
	told := impl.BestPlan(g, f)
	checkPlan(t, name, told, b.best(b.planTime))
	if told.Found {
		checkPlanTime(t, name, g, f, told.Time, told.Rounds...)
		checkRound(t, name, g, f, b.roundTime(told.Rounds[0]), told.Rounds[0]...)
	}
	return told
}

// sixTasks are within reach of place s, most of them for some time.
func sixTasks(r *rand.Rand, g impl.Graph, s int64) impl.Fleet {
	near := impl.Within(g, s, 300)
	f := impl.Fleet{Depot: s, Start: r.Int63n(100), Vehicles: 4, Room: 12}
	for range impl.MaxTasks {
		n := near[r.Intn(len(near))]
		k := impl.Task{Spot: n.Spot, Load: r.Int63n(6), Open: r.Int63n(500), Stay: r.Int63n(50)}
		k.Close = k.Open + n.Time + 100 + r.Int63n(900)
		f.Tasks = append(f.Tasks, k)
	}
	return f
}

func TestPlansInAGreatTown(t *testing.T) {
	tell := numbers(166)
	g := greatTown(tell)
	// Of the turns that are forbidden one in ten, so that one gets back.
	few := slices.DeleteFunc(slices.Clone(g.Bans), func(b impl.Ban) bool { return b.From%10 > 0 })
	if len(g.Places) != impl.MaxNodes || len(g.Roads) != impl.MaxRoads {
		t.Fatal(len(g.Places), "places and", len(g.Roads), "Roads")
	}
	found, several := 0, 0
	for _, town := range []impl.Graph{g, withBans(g, few...), withBans(g)} {
		for range 12 {
			told := checkGreatFleet(t, "in the town", town, sixTasks(tell, town, tell.Int63n(impl.MaxNodes)))
			found, several = found+count(told.Found), several+count(len(told.Rounds) > 1)
		}
	}
	if found < 15 || several < 10 {
		t.Error("too few are found:", found, several)
	}
}

func TestPlansInOtherGreatGraphs(t *testing.T) {
	tell := numbers(167)
	around := func(int64) impl.Point { return somewhere(tell, 1000) }
	places := []int64{1, 4000, 2000, 1500, 3, 3999}
	g := hub(4000, around, func(int64) int64 { return 1 + tell.Int63n(30) })
	checkGreatFleet(t, "a hub", g, fleet(4, tasksAt(places...)...))
	f := fleet(4, tasksAt(places...)...)
	f.Depot = 77
	checkGreatFleet(t, "a hub, from its edge", g, f)
	checkGreatFleet(t, "loops", loops(8000), fleet(4, tasksAt(0, 0, 0, 0, 0, 0)...))
	checkGreatFleet(t, "side by side", sideways(1600), fleet(4, tasksAt(1, 2, 3, 1601, 1602, 3201)...))
	if p := checkGreatFleet(t, "a lane", lane(4001, 100), fleet(4, tasksAt(places...)...)); !p.Found || p.Time != 2*4000*100 {
		t.Error("a lane gives", p)
	}
	if p := checkGreatFleet(t, "too long a lane", lane(4001, 251), fleet(4, tasksAt(places...)...)); p.Found {
		t.Error("too long a lane gives", p)
	}
}

// One gets there in time, and then is on the way back for as long as may be, in each of four rounds.
func TestPlansOfGreatTimes(t *testing.T) {
	g := manyPlaces(impl.MaxNodes)
	for i := range int64(impl.MaxNodes) {
		g.Places[i].Point = at(0, 0)
		g.Roads = append(g.Roads, timed(i, (i+1)%impl.MaxNodes, impl.MaxTime))
	}
	back := int64(4999) * impl.MaxTime
	one := loaded(1, 600)
	checkRound(t, "round", g, withRoom(fleet(4, one), 1000), impl.MaxTime+back, 0)
	f := withRoom(fleet(4, one, one, one, one), 1000)
	checkBestPlan(t, "four times round", g, f, 4*(impl.MaxTime+back), to(0), to(1), to(2), to(3))
	checkBestPlan(t, "once round", g, withRoom(f, 2400), impl.MaxTime+back, to(0, 1, 2, 3))
	checkRound(t, "a start one later", g, withStart(f, 1), -1, 0)
	checkNoPlan(t, "a start one later", g, withStart(f, 1))
	checkRound(t, "at the Depot behind it", g, fleet(4, task(1), task(0)), -1, 0, 1)
	checkRound(t, "at the Depot first", g, fleet(4, task(1), task(0)), impl.MaxTime+back, 1, 0)
}
