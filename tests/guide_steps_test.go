package tests

import (
	"math"
	"slices"
	"testing"

	"loop.example/g00024/impl"
)

// Promise 17, of the steps of a path.

func TestGuideOfOneRoad(t *testing.T) {
	g := called(branch(1, 0, 2, 8), "A", "B", "\xff", "")
	checkGuide(t, "the first", g, []int64{0}, turning(9, 0, "A", 1, 100))
	checkGuide(t, "the first of three", g, []int64{1}, turning(9, 0, "B", 1, 101))
	checkGuide(t, "the second of three", g, []int64{2}, turning(9, 1, "\xff", 1, 102))
	checkGuide(t, "the last of three", g, []int64{3}, turning(9, 2, "", 1, 103))
	checkGuide(t, "a loop", called(loops(1, 2), "A", "B"), []int64{1}, turning(9, 1, "B", 1, 0))
	for road := range int64(4) {
		checkDriven(t, "one Road", g, []int64{road})
	}
}

func TestGuideAheadAllTheWay(t *testing.T) {
	g := lane(5, 3)
	checkGuide(t, "there", g, []int64{0, 2, 4, 6}, turning(9, 0, "", 4, 40000+1+102+203+304))
	checkGuide(t, "back", g, []int64{7, 5, 3, 1}, turning(9, 0, "", 4, 40000+403+302+201+100))
	checkGuide(t, "on from the second", g, []int64{2, 4}, turning(9, 1, "", 2, 20000+102+203))
	checkGuide(t, "there and back", g, []int64{4, 6, 7, 5}, turning(9, 1, "", 4, 40000+203+304+403+302))
	checkGuide(t, "round", triangle(), rounds(7), turning(9, 0, "Round", 7, 70))
	g = called(g, "A", "A", "A", "A", "B", "B", "B", "B")
	checkGuide(t, "of two names", g, []int64{0, 2, 4, 6}, turning(9, 0, "A", 2, 20000+1+102), turning(0, 0, "B", 2, 20000+203+304))
	checkGuide(t, "of two names, back", g, []int64{5, 3}, turning(9, 0, "B", 1, 10302), turning(0, 0, "A", 1, 10201))
}

func TestGuideWhereEachRoadIsAStep(t *testing.T) {
	g := called(lane(4, 1), "A", "", "B", "", "A", "")
	checkGuide(t, "other names", g, []int64{0, 2, 4}, turning(9, 0, "A", 1, 10001), turning(0, 0, "B", 1, 10102), turning(0, 0, "A", 1, 10203))
	// To and fro, where one might go straight on.
	g = lane(3, 1)
	checkGuide(t, "to and fro", g, []int64{0, 1, 0, 1}, turning(9, 0, "", 1, 10001), turning(8, 0, "", 2, 10100+10001), turning(8, 0, "", 1, 10100))
	for wind := range int64(8) {
		for left, bend := range bends {
			g := branch(wind, int64(left), 0)
			if left == 0 || left == 8 {
				continue
			}
			checkGuide(t, "a turn", g, []int64{0, 1}, turning(9, 0, "", 1, 100), turning(int64(left), 0, "", 1, 101))
			checkGuide(t, "straight on", g, []int64{0, 2}, turning(9, 0, "", 2, 202))
			g = branch(wind, 0, 8, int64(left))
			checkGuide(t, "a turn", g, []int64{0, 3}, turning(9, 0, "", 1, 100), turning(int64(left), 0, "", 1, 103))
			checkGuide(t, "back", g, []int64{0, 2}, turning(9, 0, "", 1, 100), turning(8, 0, "", 1, 102))
			if bend == 0 {
				t.Error("no turn at all")
			}
		}
	}
}

// A Road of the same name that is not the Road ahead is a step of its own.
func TestGuideBesideTheRoadAhead(t *testing.T) {
	g := called(branch(0, 2, 1, 7, 0), "A", "A", "A", "A", "B")
	checkGuide(t, "ahead", g, []int64{0, 2}, turning(9, 0, "A", 2, 202))
	checkGuide(t, "as good, but not the first", g, []int64{0, 3}, turning(9, 0, "A", 1, 100), turning(7, 0, "A", 1, 103))
	checkGuide(t, "to the left", g, []int64{0, 1}, turning(9, 0, "A", 1, 100), turning(2, 0, "A", 1, 101))
	checkGuide(t, "straight on, of another name", g, []int64{0, 4}, turning(9, 0, "A", 1, 100), turning(0, 0, "B", 1, 104))
	checkGuide(t, "the first forbidden", withBans(g, ban(0, 2)), []int64{0, 3}, turning(9, 0, "A", 2, 203))
}

func TestGuideTellsWhich(t *testing.T) {
	g := called(branch(0, 2, 8, 2, 0, 2, 8, 2, 0), "A", "A", "B", "C", "D", "a", "E", "F", "G")
	checkWhich := func(name string, g impl.Graph, road int64, wind int64, which int64) {
		t.Helper()
		checkGuide(t, name, g, []int64{0, road}, turning(9, 0, "A", 1, 100), turning(wind, which, g.Roads[road].Name, 1, 100+road))
		checkDriven(t, name, g, []int64{0, road})
	}
	checkGuide(t, "the Road ahead", g, []int64{0, 1}, turning(9, 0, "A", 2, 201))
	for i, road := range []int64{3, 5, 7} {
		checkWhich("to the left", g, road, 2, int64(i+1))
		checkWhich("the first forbidden", withBans(g, ban(0, 1)), road, 2, int64(i))
	}
	for i, road := range []int64{2, 6} {
		checkWhich("back", g, road, 8, int64(i))
	}
	for i, road := range []int64{4, 8} {
		checkWhich("straight on", g, road, 0, int64(i))
	}
	checkWhich("one ahead of it forbidden", withBans(g, ban(0, 3), ban(0, 5)), 7, 2, 1)
	checkWhich("one behind it forbidden", withBans(g, ban(0, 7)), 3, 2, 1)
	checkWhich("back, the first forbidden", withBans(g, ban(0, 2)), 6, 8, 0)
	// At the beginning all Roads count, in all winds, whatever is forbidden.
	for i, road := range []int64{1, 2, 3, 4, 5, 6, 7, 8} {
		checkGuide(t, "the beginning", withBans(g, ban(0, 1), ban(0, 4)), []int64{road}, turning(9, int64(i), g.Roads[road].Name, 1, 100+road))
	}
}

func TestGuideOfWhatIsNoPath(t *testing.T) {
	g := crossroads()
	for name, roads := range map[string][]int64{
		"nothing": nil, "an empty list": {}, "below 0": {-1}, "one more than there are": {6}, "the least number": {math.MinInt64}, "the greatest": {math.MaxInt64},
		"below 0 behind a Road": {0, -1}, "below 0 ahead of one": {-1, 0}, "below 0 in the middle": {0, -1, 2}, "one more behind a Road": {0, 6},
		"Roads that don't follow": {0, 3}, "Roads that don't follow later": {0, 2, 5}, "Roads that begin at one place": {1, 2}, "Roads that end at one": {0, 3},
		"the other way round": {2, 0}, "one Road twice": {0, 0},
	} {
		checkGuide(t, name, g, roads)
	}
	// Where no Road lies ahead, -1 does not either.
	checkGuide(t, "behind the last", branch(0, 0), []int64{0, 1, -1})
	checkGuide(t, "no Roads", manyPlaces(2), []int64{0})
	checkGuide(t, "no Roads", manyPlaces(2), nil)
	checkGuide(t, "no places", impl.Graph{}, nil)
	for _, i := range []int{1, 2, 3} {
		roads := []int64{0, 2, 4, 6}
		g := lane(5, 1)
		checkGuide(t, "forbidden", withBans(g, ban(roads[i-1], roads[i])), roads)
		checkGuide(t, "the way back forbidden", withBans(g, ban(roads[i-1], roads[i-1]+1)), roads, impl.Guide(g, roads)...)
	}
	checkGuide(t, "a turn that is forbidden", withBans(called(g, "A", "B", "C"), ban(0, 2)), []int64{0, 2})
	for _, bad := range badGraphs() {
		for _, roads := range [][]int64{nil, {0}, {0, 2}, {5}} {
			checkGuide(t, bad.name, bad.graph, roads)
		}
	}
}

// As many Roads as may be followed are one step here, and so are more.
func TestGuideOfMaxRoads(t *testing.T) {
	for _, n := range []int{impl.MaxRoads - 1, impl.MaxRoads, impl.MaxRoads + 1, 3 * impl.MaxRoads} {
		checkGuide(t, "round and round", triangle(), rounds(n), turning(9, 0, "Round", int64(n), 10*int64(n)))
	}
	checkGuide(t, "a loop", loops(1), make([]int64, impl.MaxRoads), turning(9, 0, "", impl.MaxRoads, 0))
	g := lane(3, 1)
	g.Roads[0].Length, g.Roads[1].Length = impl.MaxId, impl.MaxId
	var roads []int64
	for i := range impl.MaxRoads {
		roads = append(roads, int64(i%2))
	}
	steps := impl.Guide(g, roads)
	if len(steps) != 4001 || steps[1] != turning(8, 0, "", 2, 2*impl.MaxId) || steps[4000] != turning(8, 0, "", 1, impl.MaxId) {
		t.Error("to and fro:", short(steps))
	}
	checkDriven(t, "to and fro", g, roads)
	checkDriven(t, "round and round", triangle(), rounds(impl.MaxRoads))
	// The greatest Length that may be followed.
	g = triangle()
	for i := range g.Roads {
		g.Roads[i].Length = impl.MaxId
	}
	checkGuide(t, "as long as may be", g, rounds(impl.MaxRoads), turning(9, 0, "Round", impl.MaxRoads, impl.MaxRoads*impl.MaxId))
	checkGuide(t, "and a fault at its end", g, append(rounds(impl.MaxRoads), 1))
	checkGuide(t, "and a fault at its beginning", g, slices.Concat([]int64{1}, rounds(impl.MaxRoads)))
}
