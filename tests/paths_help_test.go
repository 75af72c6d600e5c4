package tests

import (
	"math/rand"
	"slices"
	"testing"

	"loop.example/g00024/impl"
)

// timed is a Road on way 1 of which the Length tells it apart.
func timed(from int64, to int64, time int64) impl.Road {
	return impl.Road{From: from, To: to, Way: 1, Time: time, Length: 10000 + 100*from + to}
}

// onOnePoint is a graph of so many places that all have the same point, so that turning costs nothing, but 20 back.
func onOnePoint(places int, roads ...impl.Road) impl.Graph {
	g := manyPlaces(places)
	for i := range g.Places {
		g.Places[i].Point = at(3, 4)
	}
	g.Roads = roads
	return g
}

// winds are the points beside the origin, by their Headings.
func winds() []impl.Point {
	return []impl.Point{at(10, 0), at(10, 10), at(0, 10), at(-10, 10), at(-10, 0), at(-10, -10), at(0, -10), at(10, -10)}
}

// star has place 0 at the origin, and 1 to 8 around it by their Headings: Road i leads from place i to 0, Road 8 + i leads from 0 there;
// both are numbered from 0 on.
func star() impl.Graph {
	g := impl.Graph{Places: []impl.Spot{spotAt(1, 0, 0)}}
	for i, p := range winds() {
		g.Places = append(g.Places, impl.Spot{Id: int64(i + 2), Point: p})
	}
	for i := range int64(8) {
		g.Roads = append(g.Roads, timed(i+1, 0, 1))
	}
	for i := range int64(8) {
		g.Roads = append(g.Roads, timed(0, i+1, 1))
	}
	return g
}

func samePath(a impl.Path, b impl.Path) bool {
	return a.Found == b.Found && a.Time == b.Time && a.Length == b.Length && slices.Equal(a.Roads, b.Roads)
}

func checkTurnTime(t *testing.T, name string, g impl.Graph, from int64, to int64, want int64) {
	t.Helper()
	if got := impl.TurnTime(g, from, to); got != want {
		t.Error(name, "from", from, "to", to, "gives", got, "and not", want, short(g))
	}
}

func checkPathTime(t *testing.T, name string, g impl.Graph, roads []int64, from int64, to int64, want int64) {
	t.Helper()
	if got := impl.PathTime(g, roads, from, to); got != want {
		t.Error(name, short(roads), "from", from, "to", to, "gives", got, "and not", want, short(g))
	}
}

func checkPath(t *testing.T, name string, got impl.Path, want impl.Path) {
	t.Helper()
	if !samePath(got, want) {
		t.Error(name, "gives", short(got), "and not", short(want))
	}
}

// checkBest wants these Roads, and what they say themselves of their lengths.
func checkBest(t *testing.T, name string, g impl.Graph, from int64, to int64, time int64, roads ...int64) {
	t.Helper()
	want := impl.Path{Found: true, Roads: roads, Time: time}
	for _, r := range roads {
		want.Length += g.Roads[r].Length
	}
	checkPath(t, name, impl.BestPath(g, from, to), want)
	checkPathTime(t, name, g, roads, from, to, time)
}

func checkNoWay(t *testing.T, name string, g impl.Graph, from int64, to int64) {
	t.Helper()
	checkPath(t, name, impl.BestPath(g, from, to), impl.Path{})
}

func checkReach(t *testing.T, name string, g impl.Graph, from int64, want ...int64) {
	t.Helper()
	checkNumbers(t, name+": Reach", impl.Reach(g, from), want...)
}

func checkFirst(t *testing.T, name string, g impl.Graph, to int64, want ...int64) {
	t.Helper()
	checkNumbers(t, name+": FirstRoads", impl.FirstRoads(g, to), want...)
}

// someStreets is a graph with few Times, so that many paths take as long, over places of which some have the same point.
func someStreets(r *rand.Rand, places int, roads int) impl.Graph {
	var g impl.Graph
	wide := pick(r, int64(0), 1, 1, 2, 5)
	for i := range int64(places) {
		g.Places = append(g.Places, impl.Spot{Id: i + 1, Point: somewhere(r, wide)})
	}
	most := pick(r, int64(1), 1, 2, 4, 30)
	for range roads {
		g.Roads = append(g.Roads, impl.Road{
			From: r.Int63n(int64(places)), To: r.Int63n(int64(places)), Way: 1 + r.Int63n(3), Time: 1 + r.Int63n(most), Length: r.Int63n(50),
		})
	}
	return withBans(g, someOf(r, g, pick(r, 0, 0, 1, 3, 6))...)
}
