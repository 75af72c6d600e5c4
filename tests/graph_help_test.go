package tests

import (
	"math"
	"math/rand"
	"slices"
	"strconv"
	"testing"

	"loop.example/g00024/impl"
)

func spotAt(id int64, x int64, y int64) impl.Spot { return impl.Spot{Id: id, Point: at(x, y)} }

// road is one that takes as little as may be.
func road(from int64, to int64, way int64) impl.Road {
	return impl.Road{From: from, To: to, Way: way, Time: 1}
}

func ban(from int64, to int64) impl.Ban { return impl.Ban{From: from, To: to} }

// crossroads has its middle at place 0: way 5 goes through it, way 6 begins there; none is one-way.
func crossroads() impl.Graph {
	return impl.Graph{
		Places: []impl.Spot{spotAt(1, 0, 0), spotAt(2, 10, 0), spotAt(3, 0, 10), spotAt(4, -10, 0)},
		Roads:  []impl.Road{road(3, 0, 5), road(0, 3, 5), road(0, 1, 5), road(1, 0, 5), road(0, 2, 6), road(2, 0, 6)},
	}
}

// withBans is the same graph with these alone.
func withBans(g impl.Graph, bans ...impl.Ban) impl.Graph {
	g = same(g)
	g.Bans = bans
	return g
}

// loops is a graph of one place with Id 1, and for each count that many Roads from it to itself, on the ways 1, 2 and so on.
func loops(counts ...int) impl.Graph {
	g := impl.Graph{Places: []impl.Spot{spotAt(1, 0, 0)}}
	for i, n := range counts {
		for range n {
			g.Roads = append(g.Roads, road(0, 0, int64(i+1)))
		}
	}
	return g
}

// manyPlaces is a graph with places alone.
func manyPlaces(count int) impl.Graph {
	var g impl.Graph
	for i := range int64(count) {
		g.Places = append(g.Places, spotAt(i+1, i, 0))
	}
	return g
}

// allTurns are the first so many of those that lead from a Road of one place alone to another.
func allTurns(g impl.Graph, count int) []impl.Ban {
	var bans []impl.Ban
	for from := range int64(len(g.Roads)) {
		for to := range int64(len(g.Roads)) {
			if len(bans) < count {
				bans = append(bans, ban(from, to))
			}
		}
	}
	return bans
}

// sameGraph holds two against each other, with an empty list as nil.
func sameGraph(a impl.Graph, b impl.Graph) bool {
	return slices.Equal(a.Places, b.Places) && slices.Equal(a.Roads, b.Roads) && slices.Equal(a.Bans, b.Bans)
}

func checkGraphOk(t *testing.T, name string, g impl.Graph, want bool) {
	t.Helper()
	if got := impl.GraphOk(g); got != want {
		t.Error(name, short(g), got)
	}
}

func checkGraph(t *testing.T, name string, got impl.Graph, want impl.Graph) {
	t.Helper()
	if !sameGraph(got, want) {
		t.Error(name, "gives", short(got), "and not", short(want))
	}
}

func checkMade(t *testing.T, name string, m impl.Map, kind int64, want impl.Graph) {
	t.Helper()
	checkGraph(t, name, impl.MakeGraph(m, kind), want)
}

// checkBans wants the graph as it was, but for its Bans.
func checkBans(t *testing.T, name string, got impl.Graph, g impl.Graph, want ...impl.Ban) {
	t.Helper()
	checkGraph(t, name, got, withBans(g, want...))
}

func checkForbid(t *testing.T, name string, g impl.Graph, lists [][]int64, want ...impl.Ban) {
	t.Helper()
	checkBans(t, name, impl.Forbid(g, lists), g, want...)
}

func checkNoBack(t *testing.T, name string, g impl.Graph, want ...impl.Ban) {
	t.Helper()
	checkBans(t, name, impl.NoBack(g), g, want...)
}

func checkTurns(t *testing.T, name string, g impl.Graph, road int64, want ...int64) {
	t.Helper()
	checkNumbers(t, name, impl.TurnsOf(g, road), want...)
}

// badGraph is one that can't be, and why.
type badGraph struct {
	name  string
	graph impl.Graph
}

// badGraphs are each alone spoiled by one thing.
func badGraphs() []badGraph {
	var all []badGraph
	put := func(name string, spoil func(g *impl.Graph)) {
		g := withBans(crossroads(), ban(0, 1), ban(0, 2), ban(3, 2))
		spoil(&g)
		all = append(all, badGraph{name, g})
	}
	badPlaces(put)
	badRoads(put)
	badBans(put)
	return append(all,
		badGraph{"a place too many", manyPlaces(5001)},
		badGraph{"a Road too many", loops(8001)},
		badGraph{"a Ban too many", withBans(loops(45), allTurns(loops(45), 2001)...)},
		badGraph{"a Ban without a Road", impl.Graph{Places: manyPlaces(1).Places, Bans: []impl.Ban{{}}}},
		badGraph{"a Road without a place", impl.Graph{Roads: []impl.Road{road(0, 0, 1)}}})
}

func badPlaces(put func(name string, spoil func(g *impl.Graph))) {
	put("places out of order", func(g *impl.Graph) { g.Places[1], g.Places[2] = g.Places[2], g.Places[1] })
	put("the last places out of order", func(g *impl.Graph) { g.Places[2], g.Places[3] = g.Places[3], g.Places[2] })
	put("one Id twice", func(g *impl.Graph) { g.Places[1].Id = 1 })
	put("one Id twice at the end", func(g *impl.Graph) { g.Places[3].Id = 3 })
	for _, id := range []int64{0, -1, math.MinInt64} {
		put("a first Id "+strconv.FormatInt(id, 10), func(g *impl.Graph) { g.Places[0].Id = id })
	}
	for _, id := range []int64{0, 1000000001, math.MaxInt64} {
		put("a last Id "+strconv.FormatInt(id, 10), func(g *impl.Graph) { g.Places[3].Id = id })
	}
	for _, p := range outside() {
		put("a Point that can't be", func(g *impl.Graph) { g.Places[3].Point = p })
		put("a first Point that can't be", func(g *impl.Graph) { g.Places[0].Point = p })
	}
}

func badRoads(put func(name string, spoil func(g *impl.Graph))) {
	least := map[string]int64{"From": 0, "To": 0, "Way": 1, "Time": 1, "Length": 0}
	most := map[string]int64{"From": 3, "To": 3, "Way": 1000000000, "Time": 1000000, "Length": 1000000000}
	for _, field := range []string{"From", "To", "Way", "Time", "Length"} {
		for _, n := range []int64{math.MinInt64, least[field] - 1, most[field] + 1, math.MaxInt64} {
			for _, i := range []int{0, 5} {
				// Without Bans, so that nothing else can be the reason.
				put("a Road's "+field+" "+strconv.FormatInt(n, 10), func(g *impl.Graph) { *fieldOf(&g.Roads[i], field), g.Bans = n, nil })
			}
		}
	}
}

func fieldOf(r *impl.Road, name string) *int64 {
	return map[string]*int64{"From": &r.From, "To": &r.To, "Way": &r.Way, "Time": &r.Time, "Length": &r.Length}[name]
}

func badBans(put func(name string, spoil func(g *impl.Graph))) {
	bans := func(name string, bans ...impl.Ban) { put(name, func(g *impl.Graph) { g.Bans = bans }) }
	for _, n := range []int64{math.MinInt64, -1, 6, math.MaxInt64} {
		bans("a Ban from a Road that is not there", ban(n, 2))
		bans("a Ban to a Road that is not there", ban(0, n))
		bans("a Ban of Roads that are not there", ban(n, n))
		bans("a last Ban of a Road that is not there", ban(0, 1), ban(0, n))
	}
	bans("Roads that do not meet", ban(0, 3))
	bans("Roads that meet the other way round", ban(2, 0))
	bans("Roads that begin at one place", ban(1, 2))
	bans("Roads that end at one place", ban(0, 5))
	bans("last Roads that do not meet", ban(0, 1), ban(5, 5))
	bans("From not ascending", ban(3, 2), ban(0, 1))
	bans("From not ascending, To ascending", ban(3, 1), ban(0, 2))
	bans("To not ascending", ban(0, 2), ban(0, 1))
	bans("the last ones not ascending", ban(0, 1), ban(3, 4), ban(3, 2))
	bans("one Ban twice", ban(0, 1), ban(0, 1))
	bans("one Ban twice at the end", ban(0, 1), ban(3, 2), ban(3, 2))
}

// someGraph is one that can be: few places and ways, so that Roads lie side by side, lead back and lead to where they begin.
func someGraph(r *rand.Rand) impl.Graph {
	var g impl.Graph
	for _, id := range someIds(r, 3) {
		g.Places = append(g.Places, impl.Spot{Id: id, Point: somewhere(r, 20)})
	}
	if len(g.Places) == 0 {
		return g
	}
	ways := pick(r, int64(1), 2, 3)
	for range r.Intn(14) {
		g.Roads = append(g.Roads, impl.Road{
			From: r.Int63n(int64(len(g.Places))), To: r.Int63n(int64(len(g.Places))), Way: 1 + r.Int63n(ways),
			Time: 1 + r.Int63n(9), Length: r.Int63n(90), Name: pick(r, "", "A", "B", "\xff\n"),
		})
	}
	return withBans(g, someOf(r, g, pick(r, 0, 1, 4))...)
}

// someOf are some of the turns of a graph, of every ten so many.
func someOf(r *rand.Rand, g impl.Graph, often int) []impl.Ban {
	var bans []impl.Ban
	for from, a := range g.Roads {
		for to, b := range g.Roads {
			if a.To == b.From && r.Intn(10) < often {
				bans = append(bans, ban(int64(from), int64(to)))
			}
		}
	}
	return bans
}

// someForbidden are lists that often mean a turn of such a graph, and now and then nothing.
func someForbidden(r *rand.Rand) [][]int64 {
	var lists [][]int64
	for range r.Intn(9) {
		list := []int64{1 + r.Int63n(3), 1 + r.Int63n(6), 1 + r.Int63n(3)}
		switch r.Intn(8) {
		case 0:
			list = list[:r.Intn(3)]
		case 1:
			list = append(list, 1)
		case 2:
			list[r.Intn(3)] = pick(r, strange()...)
		}
		lists = append(lists, list)
	}
	return lists
}

// someRoadTags are Tags that can be, of which most let a car drive.
func someRoadTags(r *rand.Rand) []impl.Tag {
	var ts []impl.Tag
	some := func(key string, often int, values ...string) {
		if r.Intn(10) < often {
			ts = append(ts, tag(key, pick(r, values...)))
		}
	}
	some("access", 2, "no", "private", "yes", "no ", "No")
	some("highway", 9, "motorway", "main", "main", "street", "street", "path", "Main")
	some("junction", 2, "ring", "ring", "star")
	some("maxspeed", 4, "0", "1", "7", "12", "012", "0000000019", "00000000019", "20", "29", "30", "31", "99", "9999999999", "none", "5 ", "+5", "-5", "1.5")
	some("name", 5, "A", "Mill Lane", "~ ")
	some("oneway", 4, "yes", "-1", "no", "1", "Yes")
	return ts
}

// someRoadMap is one that can be; its ways share nodes, go to and fro and come back to where they were.
func someRoadMap(r *rand.Rand) impl.Map {
	m := someMap(r)
	for i := range m.Ways {
		m.Ways[i].Tags = someRoadTags(r)
	}
	far := pick(r, int64(1), 1, 7, 1000, 100000)
	for i := range m.Nodes {
		m.Nodes[i].Point = at(m.Nodes[i].Point.X*far, m.Nodes[i].Point.Y*far)
	}
	return m
}
