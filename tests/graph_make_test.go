package tests

import (
	"slices"
	"testing"

	"loop.example/g00024/impl"
)

// Promise 9, of MakeGraph: the graph is the map's.

func tagged(w impl.Way, pairs ...string) impl.Way {
	w.Tags = tags(pairs...)
	return w
}

// driven is a Road that takes time.
func driven(from int64, to int64, way int64, time int64, length int64, name string) impl.Road {
	return impl.Road{From: from, To: to, Way: way, Time: time, Length: length, Name: name}
}

// village has ways of each kind: both ways, along, against, a ring, on foot alone, of motors alone, without a speed.
func village() impl.Map {
	return impl.Map{
		Nodes: []impl.Node{
			node(2, 0, 0), node(3, 95, 0, "name", "Mill"), node(5, 95, 40), node(7, 0, 41), node(11, 7, 7), node(13, -300, 400), node(17, 500, 500), node(19, 1, 1, "highway", "main"),
		},
		Ways: []impl.Way{
			tagged(way(4, 2, 3, 5), "highway", "street", "name", "Mill Lane"),
			tagged(way(6, 5, 7), "highway", "main", "oneway", "yes"),
			tagged(way(8, 7, 2), "highway", "main", "maxspeed", "3", "name", "Back Road", "oneway", "-1"),
			way(9, 11, 17),
			tagged(way(10, 2, 11, 2), "highway", "path", "name", "Foot"),
			tagged(way(12, 2, 13), "highway", "motorway", "junction", "ring"),
			tagged(way(14, 17, 2), "access", "private", "highway", "main"),
		},
	}
}

func TestMadeByCar(t *testing.T) {
	checkMade(t, "the village", village(), impl.CarKind, impl.Graph{
		Places: []impl.Spot{spotAt(2, 0, 0), spotAt(3, 95, 0), spotAt(5, 95, 40), spotAt(7, 0, 41), spotAt(13, -300, 400)},
		Roads: []impl.Road{
			driven(0, 1, 4, 10, 95, "Mill Lane"), driven(1, 0, 4, 10, 95, "Mill Lane"),
			driven(1, 2, 4, 4, 40, "Mill Lane"), driven(2, 1, 4, 4, 40, "Mill Lane"),
			driven(2, 3, 6, 5, 95, ""),
			driven(0, 3, 8, 14, 41, "Back Road"),
			driven(0, 4, 12, 17, 500, ""),
		},
	})
}

func TestMadeOnFoot(t *testing.T) {
	checkMade(t, "the village", village(), impl.FootKind, impl.Graph{
		Places: []impl.Spot{spotAt(2, 0, 0), spotAt(3, 95, 0), spotAt(5, 95, 40), spotAt(7, 0, 41), spotAt(11, 7, 7)},
		Roads: []impl.Road{
			driven(0, 1, 4, 95, 95, "Mill Lane"), driven(1, 0, 4, 95, 95, "Mill Lane"),
			driven(1, 2, 4, 40, 40, "Mill Lane"), driven(2, 1, 4, 40, 40, "Mill Lane"),
			driven(2, 3, 6, 95, 95, ""), driven(3, 2, 6, 95, 95, ""),
			driven(3, 0, 8, 41, 41, "Back Road"), driven(0, 3, 8, 41, 41, "Back Road"),
			driven(0, 4, 10, 10, 10, "Foot"), driven(4, 0, 10, 10, 10, "Foot"),
			driven(4, 0, 10, 10, 10, "Foot"), driven(0, 4, 10, 10, 10, "Foot"),
		},
	})
}

func TestMadeOfNothing(t *testing.T) {
	for _, kind := range []int64{impl.CarKind, impl.FootKind} {
		checkMade(t, "no map", impl.Map{}, kind, impl.Graph{})
		checkMade(t, "no ways", impl.Map{Nodes: village().Nodes}, kind, impl.Graph{})
		checkMade(t, "ways without a speed", blank(9, 8, 7), kind, impl.Graph{})
		eachFault(func(name string, m impl.Map) { checkMade(t, name, m, kind, impl.Graph{}) })
	}
	for _, kind := range noKinds() {
		checkMade(t, "a kind that can't be", village(), kind, impl.Graph{})
	}
	only := impl.Map{Nodes: village().Nodes, Ways: []impl.Way{village().Ways[4]}}
	checkMade(t, "a path by car", only, impl.CarKind, impl.Graph{})
	only.Ways = []impl.Way{village().Ways[5]}
	checkMade(t, "a motorway on foot", only, impl.FootKind, impl.Graph{})
}

// pair is a map of two nodes so far apart to the east, and one way between.
func pair(far int64, pairs ...string) impl.Map {
	return impl.Map{Nodes: []impl.Node{node(1, -far/2, 0), node(2, far-far/2, 0)}, Ways: []impl.Way{tagged(way(1, 1, 2), pairs...)}}
}

// checkTime asks for the Time of a Road along that is so long; -1 means that there is no graph.
func checkTime(t *testing.T, kind int64, length int64, want int64, pairs ...string) {
	t.Helper()
	g := impl.MakeGraph(pair(length, pairs...), kind)
	if want < 0 {
		checkGraph(t, "too long", g, impl.Graph{})
		return
	}
	if len(g.Roads) == 0 || g.Roads[0].Time != want || g.Roads[0].Length != length {
		t.Error(length, pairs, "gives", g, "and not", want)
	}
}

func TestTimesAreRoundedUp(t *testing.T) {
	for _, length := range []int64{0, 1, 9, 10, 11, 19, 20, 21, 29, 30, 31, 599, 600, 601, 999999, 1000000} {
		checkTime(t, impl.CarKind, length, timeOf(length, 10), "highway", "street")
		checkTime(t, impl.CarKind, length, timeOf(length, 20), "highway", "main", "oneway", "yes")
		checkTime(t, impl.CarKind, length, timeOf(length, 30), "highway", "motorway")
		checkTime(t, impl.CarKind, length, timeOf(length, 7), "highway", "motorway", "maxspeed", "7")
		checkTime(t, impl.FootKind, length, max(1, length), "highway", "street")
		checkTime(t, impl.FootKind, length, max(1, length), "highway", "street", "maxspeed", "5", "oneway", "-1")
	}
	checkTime(t, impl.CarKind, 0, 1, "highway", "main")
	checkTime(t, impl.CarKind, 1, 1, "highway", "main")
	checkTime(t, impl.CarKind, 20, 1, "highway", "main")
	checkTime(t, impl.CarKind, 21, 2, "highway", "main")
	checkTime(t, impl.CarKind, 40, 2, "highway", "main")
	checkTime(t, impl.CarKind, 41, 3, "highway", "main")
	// A Road that takes more than MaxTime is none, and so is the graph.
	checkTime(t, impl.FootKind, 1000000, 1000000, "highway", "main")
	checkTime(t, impl.FootKind, 1000001, -1, "highway", "main")
	checkTime(t, impl.CarKind, 10000000, 1000000, "highway", "street")
	checkTime(t, impl.CarKind, 10000001, -1, "highway", "street")
	checkTime(t, impl.CarKind, 20000000, 1000000, "highway", "main")
	checkTime(t, impl.CarKind, 20000000, 666667, "highway", "motorway")
	checkTime(t, impl.CarKind, 1000001, -1, "highway", "motorway", "maxspeed", "1")
	checkTime(t, impl.CarKind, 20000000, -1, "highway", "main", "maxspeed", "19")
}

// One Road that takes too long leaves nothing of all others; a way without a speed may be as long as it likes.
func TestOneRoadTooLong(t *testing.T) {
	m := village()
	m.Nodes = append(m.Nodes, node(20, impl.MaxCoord, impl.MaxCoord), node(21, -impl.MaxCoord, -impl.MaxCoord))
	m.Ways = append(m.Ways, way(15, 20, 21))
	checkMade(t, "no speed", m, impl.CarKind, impl.MakeGraph(village(), impl.CarKind))
	m.Ways[7].Tags = tags("highway", "motorway")
	far := impl.MakeGraph(m, impl.CarKind)
	if len(far.Roads) != 9 || far.Roads[8] != driven(6, 5, 15, 942810, 28284271, "") {
		t.Error(far)
	}
	checkMade(t, "not on foot", m, impl.FootKind, impl.MakeGraph(village(), impl.FootKind))
	m.Ways[7].Tags = tags("highway", "main")
	checkMade(t, "by car", m, impl.CarKind, impl.Graph{})
	checkMade(t, "on foot", m, impl.FootKind, impl.Graph{})
	m.Ways = slices.Insert(m.Ways, 0, tagged(way(1, 20, 21), "highway", "main"))[:8]
	checkMade(t, "the first", m, impl.CarKind, impl.Graph{})
}

// Points that are the same are a Road of no Length, which takes a second all the same.
func TestRoadsWithoutLength(t *testing.T) {
	m := impl.Map{Nodes: []impl.Node{node(1, 5, 5), node(2, 5, 5), node(3, 5, 5)}, Ways: []impl.Way{tagged(way(1, 2, 1, 3), "highway", "main", "oneway", "yes")}}
	checkMade(t, "by car", m, impl.CarKind, impl.Graph{
		Places: []impl.Spot{spotAt(1, 5, 5), spotAt(2, 5, 5), spotAt(3, 5, 5)}, Roads: []impl.Road{driven(1, 0, 1, 1, 0, ""), driven(0, 2, 1, 1, 0, "")},
	})
	checkMade(t, "on foot", m, impl.FootKind, impl.Graph{
		Places: []impl.Spot{spotAt(1, 5, 5), spotAt(2, 5, 5), spotAt(3, 5, 5)},
		Roads:  []impl.Road{driven(1, 0, 1, 1, 0, ""), driven(0, 1, 1, 1, 0, ""), driven(0, 2, 1, 1, 0, ""), driven(2, 0, 1, 1, 0, "")},
	})
}

// busy is a map with one-way ways of so many pairs of nodes each.
func busy(pairs ...int) impl.Map {
	m := blank(impl.MaxRow, 0, 0)
	for i, n := range pairs {
		m.Ways = append(m.Ways, tagged(way(int64(i+1), sway(1, 2, n+1)...), "highway", "street", "oneway", "yes"))
	}
	return m
}

func TestAsManyRoadsAsMayBe(t *testing.T) {
	for name, ask := range map[string]struct {
		pairs  []int
		kind   int64
		roads  int
		places int
	}{
		"one way":                  {[]int{1999}, car, 1999, 2},
		"MaxRoads":                 {[]int{1999, 1999, 1999, 1999, 4}, car, 8000, 2},
		"one more":                 {[]int{1999, 1999, 1999, 1999, 5}, car, 0, 0},
		"one more way":             {[]int{1999, 1999, 1999, 1999, 4, 1}, car, 0, 0},
		"far more":                 {slices.Repeat([]int{1999}, 1000), car, 0, 0},
		"both directions":          {[]int{1999, 1999, 2}, foot, 8000, 2},
		"both directions, 2 more":  {[]int{1999, 1999, 3}, foot, 0, 0},
		"both directions, one way": {[]int{1999, 1999, 2, 1}, foot, 0, 0},
		"MaxWays":                  {slices.Repeat([]int{8}, 1000), car, 8000, 2},
		"MaxWays, one too long":    {append(slices.Repeat([]int{8}, 999), 9), car, 0, 0},
	} {
		g := impl.MakeGraph(busy(ask.pairs...), ask.kind)
		if len(g.Roads) != ask.roads || len(g.Places) != ask.places || len(g.Bans) != 0 || !impl.GraphOk(g) {
			t.Error(name, len(g.Places), len(g.Roads), len(g.Bans))
		}
	}
	// What has no speed counts for nothing.
	m := busy(1999, 1999, 1999, 1999, 4, 1999)
	m.Ways[5].Tags = tags("highway", "path")
	if g := impl.MakeGraph(m, impl.CarKind); len(g.Roads) != 8000 {
		t.Error("a path by car", len(g.Roads))
	}
}

func TestAsManyPlacesAsMayBe(t *testing.T) {
	m := blank(impl.MaxNodes, 0, 0)
	for i := range int64(3) {
		var nodes []int64
		for id := i*1800 + 1; id <= min(5000, i*1800+1801); id++ {
			nodes = append(nodes, id)
		}
		m.Ways = append(m.Ways, tagged(way(i+1, nodes...), "highway", "main", "oneway", "yes"))
	}
	g := impl.MakeGraph(m, impl.CarKind)
	if len(g.Places) != 5000 || len(g.Roads) != 4999 || g.Places[4999] != spotAt(5000, 4999, 0) || g.Roads[4998] != driven(4998, 4999, 3, 1, 1, "") {
		t.Error(len(g.Places), len(g.Roads))
	}
	checkGraph(t, "each once on foot", impl.MakeGraph(m, impl.FootKind), impl.Graph{})
}

// checkOfTheMap asks what is promised of a map's graph.
func checkOfTheMap(t *testing.T, m impl.Map, kind int64, g impl.Graph) {
	t.Helper()
	if !graphCanBe(g) || len(g.Bans) > 0 {
		t.Error("it can't be", g)
	}
	for _, s := range g.Places {
		if n := nodeWith(m, s.Id); n == nil || n.Point != s.Point {
			t.Error("no such node", s)
		}
		if !slices.ContainsFunc(g.Roads, func(r impl.Road) bool { return g.Places[r.From].Id == s.Id || g.Places[r.To].Id == s.Id }) {
			t.Error("no Road goes there", s)
		}
	}
	for _, r := range g.Roads {
		w, from, to := wayWith(m, r.Way), g.Places[r.From], g.Places[r.To]
		along, against := beside(w.Nodes, from.Id, to.Id), beside(w.Nodes, to.Id, from.Id)
		oneway, speed := onewayOf(w.Tags, kind), speedOf(w.Tags, kind)
		if !along && !against || oneway == 1 && !along || oneway == -1 && !against {
			t.Error("not on its way:", r, w)
		}
		if speed <= 0 || !isDistance(from.Point, to.Point, r.Length) || r.Time < 1 || r.Time*speed < r.Length || r.Time > 1 && (r.Time-1)*speed >= r.Length || r.Name != valueOf(w.Tags, "name") {
			t.Error("not as long, fast or named as its way:", r, w)
		}
	}
}

// beside tells whether b stands right behind a.
func beside(nodes []int64, a int64, b int64) bool {
	for i := 1; i < len(nodes); i++ {
		if nodes[i-1] == a && nodes[i] == b {
			return true
		}
	}
	return false
}

func TestMadeAgainstTheWords(t *testing.T) {
	tell := numbers(109)
	roads, none, ways := 0, 0, map[int64]int{}
	for range 6000 {
		m := someRoadMap(tell)
		for _, kind := range []int64{car, foot, pick(tell, noKinds()...)} {
			want := graphOf(m, kind)
			got := impl.MakeGraph(m, kind)
			checkGraph(t, "by chance", got, want)
			checkOfTheMap(t, m, kind, got)
			roads += len(got.Roads)
			none += count(len(got.Roads) == 0 && len(m.Ways) > 3)
		}
		for _, w := range m.Ways {
			ways[onewayOf(w.Tags, car)]++
		}
		if t.Failed() {
			t.FailNow()
		}
	}
	if roads < 20000 || none < 1000 || ways[1] < 1000 || ways[-1] < 500 {
		t.Error("too few of a kind:", roads, none, ways)
	}
}
