package tests

import (
	"math/rand"
	"slices"
	"testing"

	"loop.example/g00024/impl"
)

// Promise 10, of graphs as great as may be: they are answered, and in a time that a test can wait for.

// lane is a row of so many places, with Roads there and back between each two beside each other.
func lane(places int, time int64) impl.Graph {
	g := manyPlaces(places)
	for i := range int64(places - 1) {
		g.Roads = append(g.Roads, timed(i, i+1, time), timed(i+1, i, time))
	}
	return g
}

func TestPathsOverAsManyRoadsAsMayBe(t *testing.T) {
	g := lane(4001, impl.MaxTime)
	for i := range g.Roads {
		g.Roads[i].Length = impl.MaxId
	}
	if len(g.Roads) != impl.MaxRoads {
		t.Fatal("a lane of", len(g.Roads), "Roads")
	}
	var along, against, reach []int64
	for i := range int64(4000) {
		along, against = append(along, 2*i), append(against, 7999-2*i)
		reach = append(reach, i*1000000)
	}
	checkBest(t, "along", g, 0, 4000, 4000000000, along...)
	checkBest(t, "against", g, 4000, 0, 4000000000, against...)
	checkReach(t, "along", g, 0, append(reach, 4000000000)...)
	checkFirstRoads(t, g, 4000)
	checkFirstRoads(t, g, 2000)

	// One way round over all places: the place ahead is the last to be come to.
	g = manyPlaces(impl.MaxNodes)
	var round []int64
	for i := range int64(impl.MaxNodes) {
		g.Places[i].Point = at(0, 0)
		g.Roads = append(g.Roads, timed(i, (i+1)%impl.MaxNodes, 2))
		round = append(round, (i+1)%impl.MaxNodes)
	}
	checkBest(t, "round", g, 1, 0, 2*4999, round[:4999]...)
	for i := range int64(3000) {
		g.Roads = append(g.Roads, timed(i, (i+1)%impl.MaxNodes, 2))
	}
	checkBest(t, "round, with others beside", g, 1, 0, 2*4999, round[:4999]...)
	checkFirstRoads(t, g, 0)
}

// hub has place 0 in the middle and so many others around it, each with a Road there and one back.
func hub(others int, where func(i int64) impl.Point, time func(i int64) int64) impl.Graph {
	g := impl.Graph{Places: []impl.Spot{spotAt(1, 0, 0)}}
	for i := range int64(others) {
		g.Places = append(g.Places, impl.Spot{Id: i + 2, Point: where(i)})
		g.Roads = append(g.Roads, timed(i+1, 0, time(i)), timed(0, i+1, time(i)))
	}
	return g
}

func TestPathsWhereThousandsMeet(t *testing.T) {
	tell := numbers(122)
	around := func(int64) impl.Point { return somewhere(tell, 1000) }
	// In one wind every turn to another place costs 5.
	inOneWind := func(i int64) impl.Point { return at(100+i, 0) }
	for _, g := range []impl.Graph{
		hub(4000, around, func(int64) int64 { return 1 + tell.Int63n(30) }),
		hub(2000, around, func(int64) int64 { return impl.MaxTime - tell.Int63n(30) }),
		hub(2000, inOneWind, func(int64) int64 { return 1 + tell.Int63n(3) }),
	} {
		half := int64(len(g.Places) / 2)
		s, e := 1+tell.Int63n(half), half+tell.Int63n(half)
		in, out := 2*(s-1), 2*(e-1)+1
		checkBest(t, "by the middle", g, s, e, g.Roads[in].Time+turnIn(g, in, out)+g.Roads[out].Time, in, out)
		checkFirstRoads(t, withBans(g, bansTo(out, in, 900)...), e)
	}
	g := hub(4000, inOneWind, func(int64) int64 { return 1 })
	reach := slices.Repeat([]int64{1 + 5 + 1}, 4001)
	reach[0], reach[1] = 1, 0
	checkReach(t, "in one wind", g, 1, reach...)
	// One must go to another place first, and turn back there.
	reach[2] = 1 + 5 + 1 + 20 + 1 + 5 + 1
	checkReach(t, "in one wind, one place forbidden", withBans(g, bansTo(3, 0, 1)...), 1, reach...)
	reach[2] = -1
	checkReach(t, "in one wind, one place forbidden from all", withBans(hub(2000, inOneWind, func(int64) int64 { return 1 }), bansTo(3, 0, 2000)...), 1, reach[:2001]...)
}

// bansTo forbid one to turn into a Road of a hub from so many Roads that lead to its middle.
func bansTo(out int64, first int64, count int64) []impl.Ban {
	var bans []impl.Ban
	for i := range count {
		bans = append(bans, ban(first+2*i, out))
	}
	return bans
}

func TestPathsOfRoadsSideBySide(t *testing.T) {
	// There 4000 times, and back as often.
	both := manyPlaces(2)
	for i := range int64(4000) {
		both.Roads = append(both.Roads, timed(0, 1, 4000-i), timed(1, 0, 4000-i))
	}
	checkBest(t, "there", both, 0, 1, 1, 7998)
	checkBest(t, "back", both, 1, 0, 1, 7999)
	checkReach(t, "there", both, 0, 0, 1)
	checkFirstRoads(t, both, 1)
	alike := same(both)
	for i := range alike.Roads {
		alike.Roads[i].Time = 1
	}
	checkBest(t, "all alike", alike, 1, 0, 1, 1)
	checkFirst(t, "all alike", alike, 1, firstOf(8000, 1, 22)...)
	checkFirst(t, "loops", loops(8000), 0, firstOf(8000, 1, 1)...)
	checkReach(t, "loops", loops(8000), 0, 0)
	checkBest(t, "loops", loops(8000), 0, 0, 0)
	// From the first of three places over the second, where all other Roads lead to where they begin.
	g := onOnePoint(3, append([]impl.Road{timed(0, 1, 5), timed(1, 2, 5)}, loops(8000).Roads[2:]...)...)
	for i := range g.Roads[2:] {
		g.Roads[2+i].From, g.Roads[2+i].To = 1, 1
	}
	checkBest(t, "loops on the way", g, 0, 2, 10, 0, 1)
	checkBest(t, "a loop that must be driven", withBans(g, ban(0, 1)), 0, 2, 11, 0, 2, 1)
	var bans []impl.Ban
	for i := range int64(1999) {
		bans = append(bans, ban(0, i+1))
	}
	checkBest(t, "a loop that may be driven", withBans(g, bans...), 0, 2, 11, 0, 2000, 1)
	checkReach(t, "a loop that may be driven", withBans(g, bans...), 0, 0, 5, 11)
}

// firstOf tells two numbers by turns.
func firstOf(count int, even int64, odd int64) []int64 {
	var list []int64
	for i := range count {
		list = append(list, even+(odd-even)*int64(i%2))
	}
	return list
}

// greatTown has as many places and Roads as may be, and turns that are forbidden.
func greatTown(tell *rand.Rand) impl.Graph {
	var g impl.Graph
	for i := range int64(impl.MaxNodes) {
		g.Places = append(g.Places, spotAt(i+1, i%70*100+within(tell, 40), i/70*100+within(tell, 40)))
	}
	// A street that comes by all places, and short cuts.
	for len(g.Roads) < impl.MaxRoads {
		a := int64(len(g.Roads))
		b := (a + 1) % impl.MaxNodes
		if a >= impl.MaxNodes {
			a = 71 + tell.Int63n(impl.MaxNodes-142)
			b = a + pick(tell, int64(1), -1, 70, -70, 71, -71, 69, -69)
		}
		g.Roads = append(g.Roads, timed(a, b, 1+tell.Int63n(12)))
	}
	turns := turnsIn(g, func(from int64, to int64) bool { return tell.Intn(8) == 0 })
	return withBans(g, turns[:min(len(turns), impl.MaxBans)]...)
}

func TestPathsOfAGreatTown(t *testing.T) {
	tell := numbers(123)
	g := greatTown(tell)
	reached := 0
	for range 4 {
		s := tell.Int63n(impl.MaxNodes)
		checkFirstRoads(t, g, s)
		times := impl.Reach(g, s)
		for range 20 {
			e := tell.Int63n(impl.MaxNodes)
			p := impl.BestPath(g, s, e)
			checkPathTime(t, "in the town", g, p.Roads, s, e, times[e])
			if p.Found != (times[e] >= 0) || p.Found && p.Time != times[e] {
				t.Error("in the town: from", s, "to", e, short(p), "but in", times[e])
			}
			reached += count(len(p.Roads) > 10)
		}
	}
	if reached < 20 {
		t.Error("too few can be reached:", reached)
	}
}
