package tests

import (
	"slices"
	"testing"

	"loop.example/g00024/impl"
)

// Promise 19, of chapter 9: every function answers at every argument and none panics; answers are new memory; arguments stay.

type tagsAndKind struct {
	Tags []impl.Tag
	Kind int64
}

type mapAndKind struct {
	Map  impl.Map
	Kind int64
}

type graphAndLists struct {
	Graph impl.Graph
	Lists [][]int64
}

type graphAndRoad struct {
	Graph impl.Graph
	Road  int64
}

func askSpeed(a tagsAndKind) int64 { return impl.SpeedOf(a.Tags, a.Kind) }

func askOneway(a tagsAndKind) int64 { return impl.Oneway(a.Tags, a.Kind) }

func askMade(a mapAndKind) impl.Graph { return impl.MakeGraph(a.Map, a.Kind) }

func askForbid(a graphAndLists) impl.Graph { return impl.Forbid(a.Graph, a.Lists) }

func askTurns(a graphAndRoad) []int64 { return impl.TurnsOf(a.Graph, a.Road) }

// graphsToGuard are of each kind: none, by chance, of maps, as much as may be, and such as can't be.
func graphsToGuard() []impl.Graph {
	list := []impl.Graph{
		{}, {Places: []impl.Spot{}, Roads: []impl.Road{}, Bans: []impl.Ban{}}, crossroads(), impl.NoBack(crossroads()), manyPlaces(4), loops(3),
		loops(40, 20), loops(8000), withBans(loops(45), allTurns(loops(45), 2000)...), impl.MakeGraph(village(), impl.CarKind),
	}
	tell := numbers(112)
	for range 60 {
		list = append(list, someGraph(tell), leafy(tell))
	}
	for _, bad := range badGraphs() {
		list = append(list, bad.graph)
	}
	return list
}

func TestGraphsStayAndAnswersAreNew(t *testing.T) {
	tell := numbers(113)
	for _, g := range graphsToGuard() {
		checkMemory(t, "GraphOk", g, impl.GraphOk)
		checkMemory(t, "NoBack", g, impl.NoBack)
		for _, lists := range [][][]int64{nil, {}, {{5, 1, 6}, {1, 1, 1}, {}}, {{1, 1, 2}, {9}}, someForbidden(tell)} {
			checkMemory(t, "Forbid", graphAndLists{g, lists}, askForbid)
		}
		for _, n := range []int64{-1, 0, 3, int64(len(g.Roads)) - 1, int64(len(g.Roads))} {
			checkMemory(t, "TurnsOf", graphAndRoad{g, n}, askTurns)
		}
	}
	checkMemory(t, "Forbid", graphAndLists{crossroads(), make([][]int64, impl.MaxBans+1)}, askForbid)
}

func TestMapsStayAndGraphsAreNew(t *testing.T) {
	tell := numbers(114)
	maps := append(mapsToGuard(), village(), busy(1999, 1999, 1999, 1999, 4), busy(1999, 1999, 1999, 1999, 5))
	for range 60 {
		maps = append(maps, someRoadMap(tell))
	}
	for _, m := range maps {
		for _, kind := range []int64{car, foot, 3} {
			checkMemory(t, "MakeGraph", mapAndKind{m, kind}, askMade)
		}
		for _, w := range m.Ways {
			for _, kind := range []int64{car, foot, 0} {
				checkMemory(t, "SpeedOf", tagsAndKind{w.Tags, kind}, askSpeed)
				checkMemory(t, "Oneway", tagsAndKind{w.Tags, kind}, askOneway)
			}
		}
	}
}

// What was told before stays as it was, whatever is done to the arguments and to what is told later.
func TestGraphsDoNotFollow(t *testing.T) {
	m, g, lists := village(), withBans(crossroads(), ban(0, 2)), [][]int64{{5, 1, 6}, {6, 3, 6}}
	type told struct {
		Made      impl.Graph
		Forbidden impl.Graph
		NoBack    impl.Graph
		Turns     []int64
	}
	ask := func() told {
		return told{impl.MakeGraph(m, impl.CarKind), impl.Forbid(g, lists), impl.NoBack(g), impl.TurnsOf(g, 0)}
	}
	first := ask()
	kept, later := same(first), ask()
	for _, one := range []impl.Graph{later.Made, later.Forbidden, later.NoBack, g} {
		clear(one.Places)
		clear(one.Roads)
		clear(one.Bans)
	}
	clear(later.Turns)
	_ = append(later.Turns, 7, 7, 7)
	for _, list := range lists {
		clear(list)
	}
	for i := range m.Ways {
		clear(m.Ways[i].Tags)
		clear(m.Ways[i].Nodes)
	}
	clear(m.Nodes)
	if !sameGraph(first.Made, kept.Made) || !sameGraph(first.Forbidden, kept.Forbidden) || !sameGraph(first.NoBack, kept.NoBack) || !slices.Equal(first.Turns, kept.Turns) {
		t.Error("an answer changed with an argument, or with a later one")
	}
	checkBans(t, "Forbid", first.Forbidden, crossroads(), ban(0, 2), ban(0, 4), ban(3, 4), ban(4, 5))
	checkBans(t, "NoBack", first.NoBack, crossroads(), ban(0, 1), ban(0, 2), ban(3, 2), ban(5, 4))
	checkNumbers(t, "TurnsOf", first.Turns, 1, 4)
}

func TestGraphsOfEveryKindAreAnswered(t *testing.T) {
	tell := numbers(115)
	good := map[bool]int{}
	for range 20000 {
		g := impl.Graph{Places: make([]impl.Spot, tell.Intn(4)), Roads: make([]impl.Road, tell.Intn(4)), Bans: make([]impl.Ban, tell.Intn(3))}
		number := func() int64 {
			if tell.Intn(30) > 0 {
				return tell.Int63n(3)
			}
			return pick(tell, strange()...)
		}
		for i := range g.Places {
			g.Places[i] = impl.Spot{Id: max(int64(i+1), number()), Point: at(number(), number())}
		}
		for i := range g.Roads {
			g.Roads[i] = impl.Road{From: number(), To: number(), Way: 1 + number(), Time: 1 + number(), Length: number(), Name: pick(tell, "", "\xff")}
		}
		for i := range g.Bans {
			g.Bans[i] = impl.Ban{From: number(), To: number()}
		}
		lists, n := [][]int64{{number(), number(), number()}, {1 + number(), 1 + number(), 1 + number()}}, number()
		good[graphCanBe(g)]++
		checkGraphOk(t, "strange", g, graphCanBe(g))
		checkGraph(t, "strange", impl.Forbid(g, lists), forbidOf(g, lists))
		checkGraph(t, "strange", impl.NoBack(g), noBackOf(g))
		checkTurns(t, "strange", g, n, turnsOf(g, n)...)
		if t.Failed() {
			t.Fatal(g, lists, n)
		}
	}
	if good[true] < 2000 || good[false] < 5000 {
		t.Error("too few of a kind:", good)
	}
}

func TestMapsOfEveryKindBecomeGraphs(t *testing.T) {
	tell := numbers(116)
	made := 0
	for seed := range int64(20000) {
		m := strangeMap(seed)
		if tell.Intn(2) == 0 {
			m = shaken(tell, someRoadMap(tell))
		}
		for i := range m.Ways {
			if tell.Intn(12) == 0 {
				m.Ways[i].Tags = strangeRoadTags(tell)
			}
		}
		kind := pick(tell, car, car, foot, foot, pick(tell, strange()...))
		want := graphOf(m, kind)
		made += count(len(want.Roads) > 0)
		checkMade(t, "strange", m, kind, want)
		if t.Failed() {
			t.Fatal(m, kind)
		}
	}
	if made < 1000 {
		t.Error("too few became graphs:", made)
	}
	for _, m := range []impl.Map{
		{Nodes: make([]impl.Node, 1<<20)}, {Ways: make([]impl.Way, 1<<20)}, {Ways: []impl.Way{{Id: 1, Nodes: make([]int64, 1<<20), Tags: tags("highway", "main")}}},
	} {
		checkMade(t, "a great list", m, impl.CarKind, impl.Graph{})
	}
}

func TestTheSameGraphsAreAnsweredAgain(t *testing.T) {
	tell := numbers(117)
	for range 200 {
		m, g, lists := someRoadMap(tell), someGraph(tell), someForbidden(tell)
		made, forbidden, noBack, turns := impl.MakeGraph(m, impl.CarKind), impl.Forbid(g, lists), impl.NoBack(g), impl.TurnsOf(g, 0)
		impl.NoBack(loops(40, 20))
		impl.Forbid(crossroads(), [][]int64{{5, 1, 6}})
		impl.MakeGraph(village(), impl.FootKind)
		for range 3 {
			checkMade(t, "again", m, impl.CarKind, made)
			checkGraph(t, "again", impl.Forbid(g, lists), forbidden)
			checkGraph(t, "again", impl.NoBack(g), noBack)
			checkTurns(t, "again", g, 0, turns...)
		}
	}
}
