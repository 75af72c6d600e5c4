package tests

import (
	"math"
	"strings"
	"testing"

	"loop.example/g00024/impl"
)

// Promise 9, of GraphOk: what is a graph, and what is none.

func TestGraphsThatCanBe(t *testing.T) {
	checkGraphOk(t, "the empty one", impl.Graph{}, true)
	checkGraphOk(t, "empty lists", impl.Graph{Places: []impl.Spot{}, Roads: []impl.Road{}, Bans: []impl.Ban{}}, true)
	checkGraphOk(t, "one place", manyPlaces(1), true)
	checkGraphOk(t, "crossroads", crossroads(), true)
	checkGraphOk(t, "a Road to where it begins", loops(1), true)
	checkGraphOk(t, "a Road that follows itself", withBans(loops(1), ban(0, 0)), true)
	checkGraphOk(t, "Bans", withBans(crossroads(), ban(0, 1), ban(0, 2), ban(3, 2)), true)
	checkGraphOk(t, "Bans of one From", withBans(crossroads(), ban(0, 1), ban(0, 2), ban(0, 4)), true)
	checkGraphOk(t, "Bans of one To", withBans(crossroads(), ban(0, 4), ban(3, 4), ban(5, 4)), true)
	checkGraphOk(t, "a To below the one ahead", withBans(crossroads(), ban(0, 4), ban(3, 1)), true)
	checkGraphOk(t, "every turn", withBans(crossroads(), turnsIn(crossroads(), func(from int64, to int64) bool { return true })...), true)
}

func TestGraphsAtTheEdges(t *testing.T) {
	const m = impl.MaxCoord
	ends := impl.Graph{Places: []impl.Spot{spotAt(1, -m, m), spotAt(1000000000, m, -m)}}
	checkGraphOk(t, "Ids and Points at the edges", ends, true)
	checkGraphOk(t, "one place with the greatest Id", impl.Graph{Places: ends.Places[1:]}, true)
	for _, name := range []string{"", "A", "\x00\xff\n", strings.Repeat("x", 1<<20)} {
		for _, r := range []impl.Road{
			{From: 0, To: 0, Way: 1, Time: 1, Length: 0, Name: name}, {From: 1, To: 1, Way: 1000000000, Time: 1000000, Length: 1000000000, Name: name},
			{From: 0, To: 1, Way: 7, Time: 999999, Length: 999999999, Name: name}, {From: 1, To: 0, Way: 2, Time: 2, Length: 1, Name: name},
		} {
			ends.Roads = []impl.Road{r}
			checkGraphOk(t, "a Road at the edges", ends, true)
		}
	}
	checkGraphOk(t, "MaxNodes", manyPlaces(5000), true)
	checkGraphOk(t, "MaxRoads", loops(8000), true)
	checkGraphOk(t, "MaxBans", withBans(loops(45), allTurns(loops(45), 2000)...), true)
	all := manyPlaces(5000)
	all.Roads = append(loops(4000).Roads, loops(0, 4000).Roads...)
	all.Bans = allTurns(all, 2000)
	checkGraphOk(t, "all at once", all, true)
	all.Roads[7999] = road(4999, 4999, 3)
	all.Bans[1999] = ban(7999, 7999)
	checkGraphOk(t, "the last of each", all, true)
}

func TestGraphsThatCanNotBe(t *testing.T) {
	for _, bad := range badGraphs() {
		checkGraphOk(t, bad.name, bad.graph, false)
	}
	checkGraphOk(t, "far too many places", impl.Graph{Places: make([]impl.Spot, 1<<20)}, false)
	checkGraphOk(t, "far too many Roads", loops(1<<20), false)
	checkGraphOk(t, "far too many Bans", withBans(loops(1), make([]impl.Ban, 1<<20)...), false)
	full := loops(8000)
	full.Roads[7999].Time = 0
	checkGraphOk(t, "the last of many Roads", full, false)
	many := manyPlaces(5000)
	many.Places[4999].Point = at(0, math.MaxInt64)
	checkGraphOk(t, "the last of many places", many, false)
	bans := withBans(loops(45), allTurns(loops(45), 2000)...)
	bans.Bans[1999] = bans.Bans[1998]
	checkGraphOk(t, "the last of many Bans", bans, false)
}

// One number of a graph is changed, so that it may be none any more.
func TestGraphsAgainstTheWords(t *testing.T) {
	tell := numbers(107)
	both := map[bool]int{}
	for range 30000 {
		g := someGraph(tell)
		number := func() int64 {
			return pick(tell, -1, 0, 1, 2, 3, int64(len(g.Places)), int64(len(g.Roads)), 1000000, 1000001, 1000000000, 1000000001, pick(tell, strange()...))
		}
		var fields []*int64
		for i := range g.Places {
			fields = append(fields, &g.Places[i].Id, &g.Places[i].Point.X, &g.Places[i].Point.Y)
		}
		for i := range g.Roads {
			fields = append(fields, &g.Roads[i].From, &g.Roads[i].To, &g.Roads[i].Way, &g.Roads[i].Time, &g.Roads[i].Length)
		}
		for i := range g.Bans {
			fields = append(fields, &g.Bans[i].From, &g.Bans[i].To)
		}
		if len(fields) > 0 {
			*fields[tell.Intn(len(fields))] = number()
		}
		want := graphCanBe(g)
		both[want]++
		checkGraphOk(t, "shaken", g, want)
		checkTurns(t, "shaken", g, 0, turnsOf(g, 0)...)
		checkGraph(t, "shaken", impl.NoBack(g), noBackOf(g))
		checkGraph(t, "shaken", impl.Forbid(g, [][]int64{{1, 1, 1}}), forbidOf(g, [][]int64{{1, 1, 1}}))
		if t.Failed() {
			t.FailNow()
		}
	}
	if both[true] < 5000 || both[false] < 5000 {
		t.Error("too few of a kind:", both)
	}
}
