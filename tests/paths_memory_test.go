package tests

import (
	"testing"

	"loop.example/g00024/impl"
)

// Promise 19, of chapter 10: every function answers at every argument and none panics; answers are new memory; arguments stay.

type graphAndTwo struct {
	Graph impl.Graph
	From  int64
	To    int64
}

type graphAndPath struct {
	Graph impl.Graph
	Roads []int64
	From  int64
	To    int64
}

type graphAndPlace struct {
	Graph impl.Graph
	Place int64
}

func askTurnTime(a graphAndTwo) int64 { return impl.TurnTime(a.Graph, a.From, a.To) }

func askPathTime(a graphAndPath) int64 { return impl.PathTime(a.Graph, a.Roads, a.From, a.To) }

func askBest(a graphAndTwo) impl.Path { return impl.BestPath(a.Graph, a.From, a.To) }

func askReach(a graphAndPlace) []int64 { return impl.Reach(a.Graph, a.Place) }

func askFirst(a graphAndPlace) []int64 { return impl.FirstRoads(a.Graph, a.Place) }

func TestGraphsStayAndPathsAreNew(t *testing.T) {
	tell := numbers(124)
	graphs := append(graphsToGuard(), star(), lane(40, 3), crossing(10, 10, 10, 11, 10))
	for range 60 {
		graphs = append(graphs, someStreets(tell, 1+tell.Intn(5), tell.Intn(15)))
	}
	for _, g := range graphs {
		last := int64(len(g.Places)) - 1
		for _, a := range []int64{-1, 0, last, last + 1} {
			checkMemory(t, "Reach", graphAndPlace{g, a}, askReach)
			checkMemory(t, "FirstRoads", graphAndPlace{g, a}, askFirst)
			for _, b := range []int64{-1, 1, last} {
				checkMemory(t, "TurnTime", graphAndTwo{g, a, b}, askTurnTime)
				checkMemory(t, "BestPath", graphAndTwo{g, a, b}, askBest)
				for _, roads := range [][]int64{nil, {0, 1}, impl.BestPath(g, a, b).Roads} {
					checkMemory(t, "PathTime", graphAndPath{g, roads, a, b}, askPathTime)
				}
			}
		}
	}
}

// What was told before stays as it was, whatever is done to the arguments and to what is told later.
func TestPathsDoNotFollow(t *testing.T) {
	g := crossing(10, 10, 10, 11, 10)
	type told struct {
		Best  impl.Path
		Reach []int64
		First []int64
	}
	ask := func() told { return told{impl.BestPath(g, 0, 2), impl.Reach(g, 0), impl.FirstRoads(g, 2)} }
	first := ask()
	later := ask()
	for _, list := range [][]int64{later.Best.Roads, later.Reach, later.First} {
		clear(list)
		_ = append(list, 7, 7, 7)
	}
	clear(g.Places)
	clear(g.Roads)
	checkPath(t, "BestPath", first.Best, impl.Path{Found: true, Roads: []int64{3, 4}, Time: 24, Length: 10004 + 10402})
	checkNumbers(t, "Reach", first.Reach, 0, 10, 24, 23, 11)
	checkNumbers(t, "FirstRoads", first.First, 25, 10, -1, 24, 10)
}

func TestPathsOfEveryKindAreAnswered(t *testing.T) {
	tell := numbers(125)
	good, found := map[bool]int{}, 0
	for range 20000 {
		g := impl.Graph{Places: make([]impl.Spot, tell.Intn(4)), Roads: make([]impl.Road, tell.Intn(5)), Bans: make([]impl.Ban, tell.Intn(6)/4)}
		number := func() int64 {
			if tell.Intn(60) > 0 {
				return tell.Int63n(3)
			}
			return pick(tell, strange()...)
		}
		for i := range g.Places {
			g.Places[i] = impl.Spot{Id: max(int64(i+1), number()), Point: at(number(), number())}
		}
		for i := range g.Roads {
			g.Roads[i] = impl.Road{From: number(), To: number(), Way: 1 + number(), Time: 1 + number(), Length: number(), Name: pick(tell, "", "\xff")}
		}
		for i := range g.Bans {
			g.Bans[i] = impl.Ban{From: number(), To: number()}
		}
		roads := []int64{number(), number(), number()}[:tell.Intn(4)]
		s, e := number(), number()
		ok := graphCanBe(g)
		good[ok]++
		checkTurnTime(t, "strange", g, s, e, turnTimeOf(g, s, e))
		checkPathTime(t, "strange", g, roads, s, e, pathTimeOf(g, roads, s, e))
		var from, to []int64
		best := impl.Path{}
		if ok && numbered(s, len(g.Places)) {
			all := pathsFrom(g, s)
			for _, p := range all {
				from = append(from, p.Time-int64(count(!p.Found)))
			}
			if numbered(e, len(g.Places)) {
				best = all[e]
				found += count(best.Found)
			}
		}
		if ok && numbered(e, len(g.Places)) {
			to = firstTimesOf(g, e)
		}
		checkPath(t, "strange", impl.BestPath(g, s, e), best)
		checkReach(t, "strange", g, s, from...)
		checkFirst(t, "strange", g, e, to...)
		if t.Failed() {
			t.Fatal(g, roads, s, e)
		}
	}
	if good[true] < 4000 || good[false] < 4000 || found < 1000 {
		t.Error("too few of a kind:", good, found)
	}
	for _, g := range []impl.Graph{{Places: make([]impl.Spot, 1<<20)}, {Roads: make([]impl.Road, 1<<20)}, {Bans: make([]impl.Ban, 1<<20)}} {
		checkNoWay(t, "a great list", g, 0, 0)
		checkReach(t, "a great list", g, 0)
		checkFirst(t, "a great list", g, 0)
		checkTurnTime(t, "a great list", g, 0, 0, -1)
		checkPathTime(t, "a great list", g, nil, 0, 0, -1)
	}
}

func TestTheSamePathsAreAnsweredAgain(t *testing.T) {
	tell := numbers(126)
	for range 200 {
		g := someStreets(tell, 1+tell.Intn(8), tell.Intn(40))
		s, e := tell.Int63n(int64(len(g.Places))), tell.Int63n(int64(len(g.Places)))
		best, reach, first, turn := impl.BestPath(g, s, e), impl.Reach(g, s), impl.FirstRoads(g, e), impl.TurnTime(g, 0, 1)
		impl.BestPath(lane(30, 2), 3, 20)
		impl.Reach(star(), 4)
		impl.FirstRoads(crossroads(), 0)
		for range 3 {
			checkPath(t, "again", impl.BestPath(g, s, e), best)
			checkReach(t, "again", g, s, reach...)
			checkFirst(t, "again", g, e, first...)
			checkTurnTime(t, "again", g, 0, 1, turn)
			checkPathTime(t, "again", g, best.Roads, s, e, reach[e])
		}
	}
}
