package tests

import (
	"slices"
	"testing"

	"loop.example/g00024/impl"
)

// Promise 13, of graphs and traces as great as may be: they are answered, and in a time that a test can wait for.

// checkGreatMatch asks for a trace of MaxTrace points, and holds it against what is reckoned from its end.
func checkGreatMatch(t *testing.T, name string, g impl.Graph, trace []impl.Point) impl.Matched {
	t.Helper()
	if len(trace) != impl.MaxTrace {
		t.Fatal(name, len(trace), "points")
	}
	told := impl.Match(g, trace)
	c, ok := chainOf(g, trace, stagesGrown)
	if !ok {
		t.Fatal(name, "no chain")
	}
	picks, least := c.leastFromTheEnd()
	checkMatched(t, name, told, c.told(picks, least))
	if told.Found {
		checkCost(t, name, g, trace, told.Cost, picks...)
	}
	return told
}

// drivenFor are the numbers of so many Roads one after the other, each so many behind the one ahead.
func drivenFor(count int, first int64, apart int64) []int64 {
	var roads []int64
	for i := range int64(count) {
		roads = append(roads, first+i*apart)
	}
	return roads
}

func TestMatchesInAGreatTown(t *testing.T) {
	tell := numbers(156)
	g := asFar(greatTown(tell))
	// Of the turns that are forbidden one in ten, so that one gets about.
	few := slices.DeleteFunc(slices.Clone(g.Bans), func(b impl.Ban) bool { return b.From%10 > 0 })
	if len(g.Places) != impl.MaxNodes || len(g.Roads) != impl.MaxRoads {
		t.Fatal(len(g.Places), "places and", len(g.Roads), "Roads")
	}
	var jumps []int64
	for range 40 {
		jumps = append(jumps, tell.Int63n(impl.MaxNodes))
	}
	found := 0
	for _, town := range []impl.Graph{g, withBans(g, few...), withBans(g)} {
		// Along the street that comes by all places, and jumping over the town: then every way is far.
		for _, roads := range [][]int64{drivenFor(40, 200, 1), drivenFor(40, 200, 3), drivenFor(40, 200, 101), jumps} {
			m := checkGreatMatch(t, "in the town", town, onRoads(tell, town, roads))
			found += count(m.Found)
		}
	}
	if found < 6 {
		t.Error("too few are found:", found)
	}
}

func TestMatchesOverAsManyRoadsAsMayBe(t *testing.T) {
	// There and back over the whole lane, 39 times.
	g := lane(4001, 1)
	for i := range g.Roads {
		g.Roads[i].Length = impl.MaxId
	}
	var ends []impl.Point
	for i := range int64(40) {
		ends = append(ends, at(i%2*4000, 0))
	}
	if m := checkGreatMatch(t, "a lane", g, ends); !m.Found || m.Cost < 38*3900*int64(impl.MaxId) {
		t.Error("a lane gives", m)
	}
	// One way round over all places.
	round := manyPlaces(impl.MaxNodes)
	for i := range int64(impl.MaxNodes) {
		round.Places[i].Point = at(i*1000, 0)
		round.Roads = append(round.Roads, long(i, (i+1)%impl.MaxNodes, 1))
	}
	round.Places[impl.MaxNodes-1].Point = at(4998500, 900000)
	for i := range int64(3000) {
		round.Roads = append(round.Roads, long(i, i+1, 2))
	}
	var back []impl.Point
	for i := range int64(40) {
		back = append(back, at(4900000-i*100000+500, 3))
	}
	checkGreatMatch(t, "round", round, back)
}

func TestMatchesWhereThousandsMeet(t *testing.T) {
	tell := numbers(157)
	near := func(int64) impl.Point { return somewhere(tell, 40) }
	g := asFar(hub(4000, near, func(int64) int64 { return 1 }))
	trace := slices.Repeat(someRow(tell, 4, 40), 10)
	checkGreatMatch(t, "a hub", g, trace)
	// From the Roads that are near as many turns are forbidden as may be.
	var bans []impl.Ban
	for _, p := range trace[:4] {
		from := impl.Candidates(g, p)[0].Road
		for k := range int64(500) {
			// Roads 2 k lead to the middle, Roads 2 k + 1 from there.
			bans = append(bans, ban(from-from%2, 2*k+1))
		}
	}
	slices.SortFunc(bans, func(a impl.Ban, b impl.Ban) int { return int(10000*(a.From-b.From) + a.To - b.To) })
	bans = slices.Compact(bans)
	if m := checkGreatMatch(t, "a hub with turns forbidden", withBans(g, bans...), trace); !m.Found || len(bans) < 1000 {
		t.Error("a hub with", len(bans), "turns forbidden gives", m)
	}
	checkGreatMatch(t, "loops", loops(8000), sameTrace(40, 0, 60))
	checkGreatMatch(t, "loops, forbidden", withBans(loops(8000), allTurns(loops(8000), 2000)...), sameTrace(40, 0, 60))
	// Side by side, there and back.
	both := spots(0, 0, 50, 0)
	for i := range int64(4000) {
		both.Roads = append(both.Roads, long(0, 1, 50+i), long(1, 0, 50+i))
	}
	checkGreatMatch(t, "side by side", both, slices.Repeat(path(40, 3, 10, -3), 20))
}
