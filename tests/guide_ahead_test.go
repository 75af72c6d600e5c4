package tests

import (
	"math"
	"testing"

	"loop.example/g00024/impl"
)

// Promise 17, of the Road ahead.

// bends are how far each wind lies from straight on.
var bends = [9]int{0, 1, 2, 3, 4, 3, 2, 1, 8}

func TestAheadOfTwoInEachWind(t *testing.T) {
	for wind := range int64(8) {
		for a := range int64(9) {
			checkAhead(t, "alone", branch(wind, a), 0, 1)
			for b := range int64(9) {
				want := int64(1)
				if bends[b] < bends[a] {
					want = 2
				}
				checkAhead(t, "of two", branch(wind, a, b), 0, want)
			}
		}
	}
}

func TestAheadOfAllWinds(t *testing.T) {
	for wind := range int64(8) {
		checkAhead(t, "all winds", branch(wind, 8, 4, 3, 5, 6, 2, 1, 7, 0), 0, 9)
		checkAhead(t, "but straight on", branch(wind, 8, 4, 3, 5, 6, 2, 7, 1), 0, 7)
		checkAhead(t, "but straight on, the other first", branch(wind, 8, 4, 3, 5, 6, 2, 1, 7), 0, 7)
		checkAhead(t, "to the sides", branch(wind, 8, 4, 3, 5, 6, 2), 0, 5)
		checkAhead(t, "slanting back", branch(wind, 8, 4, 3, 5), 0, 3)
		checkAhead(t, "back, but elsewhere", branch(wind, 8, 4, 8), 0, 2)
		checkAhead(t, "back alone", branch(wind, 8, 8, 8), 0, 1)
		checkAhead(t, "several straight on", branch(wind, 1, 0, 7, 0, 0), 0, 2)
	}
}

func TestAheadOfTheSameName(t *testing.T) {
	g := branch(3, 0, 1, 2, 8)
	checkAhead(t, "no names", g, 0, 1)
	checkAhead(t, "all of one name", called(g, "A", "A", "A", "A", "A"), 0, 1)
	checkAhead(t, "the second has it", called(g, "A", "B", "A", "A", "A"), 0, 2)
	checkAhead(t, "the third has it", called(g, "A", "B", "", "A", "A"), 0, 3)
	checkAhead(t, "the one that leads back has it", called(g, "A", "B", "", "a", "A"), 0, 4)
	checkAhead(t, "none has it", called(g, "A", "B", "", "a", "AA"), 0, -1)
	checkAhead(t, "none is without a name", called(g, "", "B", "A", "\x00", " "), 0, -1)
	checkAhead(t, "one is without a name", called(g, "", "B", "A", "", " "), 0, 3)
	checkAhead(t, "bytes that are no rune", called(g, "\xff", "\xfe", "\xc3\xbf", "\xff"), 0, 3)
	// That they are the same way says nothing.
	g.Roads[3].Way = g.Roads[0].Way
	checkAhead(t, "of one way", called(g, "A", "", "A", "B"), 0, 2)
}

func TestAheadWhereTurnsAreForbidden(t *testing.T) {
	g := branch(6, 0, 1, 7, 8)
	checkAhead(t, "one", withBans(g, ban(0, 1)), 0, 2)
	checkAhead(t, "two", withBans(g, ban(0, 1), ban(0, 2)), 0, 3)
	checkAhead(t, "another one", withBans(g, ban(0, 2)), 0, 1)
	checkAhead(t, "all but the last", withBans(g, ban(0, 1), ban(0, 2), ban(0, 3)), 0, 4)
	checkAhead(t, "all", withBans(g, ban(0, 1), ban(0, 2), ban(0, 3), ban(0, 4)), 0, -1)
	checkAhead(t, "from another Road", withBans(g, ban(4, 0)), 0, 1)
	checkAhead(t, "of that name", withBans(called(g, "A", "A", "B", "A"), ban(0, 1)), 0, 3)
}

// A Road of which both ends lie at one place has no Heading: from it and into it there is no wind to the left.
func TestAheadWithoutHeadings(t *testing.T) {
	g := branch(2, 2, 1, 0)
	g.Places[1].Point = g.Places[0].Point
	checkAhead(t, "of one that has none", g, 0, 1)
	g = branch(2, 1, 3, 2)
	g.Places[3].Point = g.Places[0].Point
	checkAhead(t, "into one that has none", g, 0, 2)
	g = branch(5, 0, 0)
	g.Places[3].Point = g.Places[0].Point
	checkAhead(t, "as good as straight on", g, 0, 1)
	// Roads from a place to itself.
	g = branch(5, 4, 1)
	g.Roads[1].To = 0
	checkAhead(t, "into a loop", g, 0, 1)
	checkAhead(t, "of a loop", g, 1, 2)
	checkAhead(t, "of a loop that is forbidden to leave", withBans(g, ban(1, 2)), 1, 1)
	checkAhead(t, "of a loop that is forbidden at all", withBans(g, ban(1, 1), ban(1, 2)), 1, -1)
	checkAhead(t, "of loops alone", loops(2, 3), 3, 0)
	checkAhead(t, "of loops alone, named", called(loops(2, 3), "A", "A", "B", "A", "B"), 4, 2)
	// One that leads back to where the Road begins does so even where there is no Heading.
	g = branch(0, 8, 4)
	g.Places[1].Point = g.Places[0].Point
	checkAhead(t, "back without a Heading", g, 0, 2)
}

func TestAheadOfTheFirstAndTheLastRoad(t *testing.T) {
	g := crossroads()
	for road, want := range []int64{2, 0, 3, 1, 5, 1} {
		checkAhead(t, "crossroads", g, int64(road), want)
	}
	for _, road := range []int64{-1, 6, 7, math.MinInt64, math.MaxInt64} {
		checkAhead(t, "no Road", g, road, -1)
	}
	checkAhead(t, "no Roads", manyPlaces(3), 0, -1)
	checkAhead(t, "nothing", impl.Graph{}, 0, -1)
	checkAhead(t, "nowhere to go", branch(0), 0, -1)
	checkAhead(t, "the end", branch(0, 0), 1, -1)
	for _, bad := range badGraphs() {
		for road := range int64(min(7, len(bad.graph.Roads)+1)) {
			checkAhead(t, bad.name, bad.graph, road, -1)
		}
	}
}
