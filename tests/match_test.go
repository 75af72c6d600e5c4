package tests

import (
	"slices"
	"testing"

	"loop.example/g00024/impl"
)

// Promise 13, of Match: a match costs least.

func TestMatchAlongTheRoad(t *testing.T) {
	g := avenue()
	checkMatch(t, "one point", g, path(500, 0), 0, 0)
	checkMatch(t, "one point beside the Road", g, path(1500, -7), 49, 1)
	checkMatch(t, "one point as far as may be", g, path(500, 60), 3600, 0)
	checkMatch(t, "on one Road", g, path(200, 0, 500, 0), 0, 0, 0)
	checkMatch(t, "on one Road, beside it", g, path(200, 3, 500, -1), 9+1, 0, 0)
	checkMatch(t, "onto the next", g, path(500, 0, 1500, 0), 3, 0, 1)
	checkMatch(t, "over one between", g, path(500, 0, 2500, 0), 6, 0, 2)
	checkMatch(t, "over two between", g, path(500, 0, 3500, 0), 9, 0, 3)
	checkMatch(t, "one after the other", g, path(500, 0, 900, 0, 1500, 0, 3500, 0), 0+3+6, 0, 0, 1, 3)
	// The Roads are longer than they look: that is what one drives besides.
	for i := range g.Roads {
		g.Roads[i].Length = 1070
	}
	checkMatch(t, "on one long Road", g, path(200, 0, 500, 0), 0, 0, 0)
	checkMatch(t, "onto the next, long", g, path(500, 0, 1500, 0), 70+3, 0, 1)
	checkMatch(t, "over two between, long", g, path(500, 0, 3500, 0), 3*70+9, 0, 3)
	// Or shorter, so that even the rest may be below nothing.
	for i := range g.Roads {
		g.Roads[i].Length = 400
	}
	checkMatch(t, "onto the next, short", g, path(500, 0, 1500, 0), 600+3, 0, 1)
	checkMatch(t, "onto the next, short, near the end", g, path(900, 0, 1100, 0), 600+3, 0, 1)
	checkMatch(t, "over one between, short", g, path(500, 0, 2500, 0), 1200+6, 0, 2)
}

// What is driven and what is straight are held against each other both ways.
func TestMatchStraightAndDriven(t *testing.T) {
	g := avenue()
	checkMatch(t, "as far", g, path(500, 30, 800, 30), 2*900, 0, 0)
	// Straight it is 305.9, so 306.
	checkMatch(t, "straight is farther", g, path(500, 30, 800, -30), 2*900+6, 0, 0)
	g = block()
	checkMatch(t, "driven is farther", g, path(500, 0, 1000, 500), 1000-707+3, 0, 1)
	checkMatch(t, "driven is much farther", g, path(500, 0, 500, 1000), 2000-1000+6, 0, 2)
	g.Roads[1].Length = 0
	checkMatch(t, "driven is less", g, path(500, 0, 500, 1000), 0+6, 0, 2)
	checkMatch(t, "driven is less", g, path(300, 0, 700, 1000), 77+6, 0, 2)
}

func TestMatchAtOnePlace(t *testing.T) {
	g := avenue()
	checkMatch(t, "twice at one place", g, sameTrace(2, 500, 0), 0, 0, 0)
	checkMatch(t, "twice at one place beside the Road", g, sameTrace(2, 500, 4), 2*16, 0, 0)
	checkMatch(t, "three times at a place between", g, sameTrace(3, 1000, 5), 3*25, 0, 0, 0)
	checkMatch(t, "twice where the later Road is nearer", g, sameTrace(2, 1001, 0), 0, 1, 1)
	// Where the Roads lead to makes no difference: one is there.
	checkMatch(t, "twice on a Road that leads nowhere", impl.Graph{Places: g.Places, Roads: g.Roads[3:]}, sameTrace(2, 3300, 1), 2, 0, 0)
	checkMatch(t, "at a Road that is one point", onOnePoint(1, long(0, 0, 77)), sameTrace(3, 3, 6), 3*4, 0, 0, 0)
	// At is rounded, and both are the same.
	checkMatch(t, "at one At", g, path(500, 0, 500, 9), 9+81, 0, 0)
}

func TestMatchOfAsManyPointsAsMayBe(t *testing.T) {
	g := avenue()
	var trace []impl.Point
	var roads []int64
	for i := range int64(40) {
		trace = append(trace, at(50+i*100, i%2))
		roads = append(roads, i/10)
	}
	// Between 10 and 10 others there is one Road more.
	checkMatch(t, "forty", g, trace, 20+3*3, roads...)
	checkMatch(t, "thirty-nine", g, trace[:39], 19+3*3, roads[:39]...)
	checkNoMatch(t, "forty-one", g, append(slices.Clone(trace), at(3999, 0)))
	checkCost(t, "forty-one", g, append(slices.Clone(trace), at(3999, 0)), -1, make([]int64, 41)...)
	checkMatch(t, "forty at one place", g, sameTrace(40, 500, 1), 40, make([]int64, 40)...)
	checkNoMatch(t, "forty-one at one place", g, sameTrace(41, 500, 1))
	checkNoMatch(t, "very many", g, sameTrace(1<<16, 500, 1))
	// As far as can be at each of them, and as long as can be between two.
	far := withRoads(spots(0, 0, 1000, 0), long(0, 1, impl.MaxId), long(1, 0, impl.MaxId))
	there := slices.Repeat(path(700, 60, 300, 60), 20)
	checkMatch(t, "there and back", far, there, matchOf(far, there).Cost, matchOf(far, there).Roads...)
}

func TestMatchOfPointsWithoutCandidates(t *testing.T) {
	g := avenue()
	for _, off := range []impl.Point{at(500, 61), at(-61, 0), at(4061, 0), at(impl.MaxCoord, impl.MaxCoord)} {
		checkNoMatch(t, "alone", g, []impl.Point{off})
		checkNoMatch(t, "first", g, []impl.Point{off, at(500, 0), at(700, 0)})
		checkNoMatch(t, "between", g, []impl.Point{at(500, 0), off, at(700, 0)})
		checkNoMatch(t, "last", g, []impl.Point{at(500, 0), at(700, 0), off})
		checkCost(t, "first", g, []impl.Point{off, at(500, 0)}, -1, 0, 0)
		checkCost(t, "last", g, []impl.Point{at(500, 0), off}, -1, 0, 0)
	}
	checkNoMatch(t, "no Roads", manyPlaces(3), path(0, 0))
	checkNoMatch(t, "an empty trace", g, nil)
	checkNoMatch(t, "an empty trace", g, []impl.Point{})
	checkNoMatch(t, "an empty trace of no graph", impl.Graph{}, nil)
}

func TestMatchOnTheSameRoad(t *testing.T) {
	g := block()
	checkMatch(t, "farther along", g, path(300, 0, 700, 0), 0, 0, 0)
	checkMatch(t, "as far along", g, path(700, 0, 700, 0), 0, 0, 0)
	checkMatch(t, "as far along, on both sides", g, path(700, 1, 700, -1), 2+2, 0, 0)
	// Round by the other three, and onto the same once more.
	checkMatch(t, "back", g, path(700, 0, 300, 0), 3600-400+12, 0, 0)
	checkMatch(t, "one back", g, path(700, 0, 699, 0), 3999-1+12, 0, 0)
	checkMatch(t, "back, and back again", g, path(700, 0, 300, 0, 299, 0), 3600-400+12+3999-1+12, 0, 0, 0)
	checkMatch(t, "round by a point", g, path(700, 0, 500, 1000, 300, 0), (1800-1020+6)+(1800-1020+6), 0, 2, 0)
	for i := range int64(4) {
		checkNoMatch(t, "the way round is forbidden", withBans(g, ban(i, (i+1)%4)), path(700, 0, 300, 0))
		checkMatch(t, "the way round is forbidden", withBans(g, ban(i, (i+1)%4)), path(300, 0, 700, 0), 0, 0, 0)
	}
	checkNoMatch(t, "no way back", avenue(), path(700, 0, 300, 0))
	// At the end there is the next Road besides, and at the beginning the one ahead.
	checkMatch(t, "from the beginning to the end", g, path(0, 0, 1000, 0), 0, 0, 0)
	checkCost(t, "from the end to the beginning", g, path(1000, 0, 0, 0), 3000-1000+12, 0, 0)
}

// One Road between, which leads back: it may be turned into at once.
func TestMatchBackAtTheEnd(t *testing.T) {
	g := withRoads(spots(0, 0, 1000, 0), long(0, 1, 1000), long(1, 0, 1000))
	// Both Roads are as near, and on Road 1 it is along.
	checkMatch(t, "along", g, path(300, 0, 700, 0), 0, 0, 0)
	checkMatch(t, "against", g, path(700, 0, 300, 0), 0, 1, 1)
	checkCost(t, "by both", g, path(700, 0, 300, 0), 1600-400+6, 0, 0)
	checkCost(t, "from the one to the other", g, path(700, 0, 300, 0), 1000-400+3, 0, 1)
	checkMatch(t, "there and back", g, path(300, 0, 700, 0, 300, 0), 0+603, 0, 0, 1)
	checkMatch(t, "back and there", g, path(700, 0, 300, 0, 700, 0), 0+603, 1, 0, 0)
	checkMatch(t, "there and back, forbidden at the other end", withBans(g, ban(1, 0)), path(300, 0, 700, 0, 300, 0), 0+603, 0, 0, 1)
	checkNoMatch(t, "there and back, forbidden at that end", withBans(g, ban(0, 1)), path(300, 0, 700, 0, 300, 0))
	checkMatch(t, "back and there, forbidden at the other end", withBans(g, ban(0, 1)), path(700, 0, 300, 0, 700, 0), 0+603, 1, 0, 0)
	checkNoMatch(t, "there and back, forbidden at both", withBans(g, ban(0, 1), ban(1, 0)), path(300, 0, 700, 0, 300, 0))
}

func TestMatchOntoTheNextRoad(t *testing.T) {
	g := withRoads(spots(0, 0, 1000, 0, 2000, 0, 1000, 3000), long(0, 1, 1000), long(1, 2, 1000))
	trace := path(500, 0, 1600, 0)
	checkMatch(t, "it begins where the first ends", g, trace, 0+3, 0, 1)
	checkNoMatch(t, "the turn is forbidden", withBans(g, ban(0, 1)), trace)
	// A Road between that leads to where it begins.
	round := withRoads(g, long(1, 1, 30))
	checkMatch(t, "a loop need not be driven", round, trace, 3, 0, 1)
	checkMatch(t, "a loop must be driven", withBans(round, ban(0, 1)), trace, 30+6, 0, 1)
	checkNoMatch(t, "a loop can't be driven", withBans(round, ban(0, 1), ban(0, 2)), trace)
	checkNoMatch(t, "a loop can't be left", withBans(round, ban(0, 1), ban(2, 1)), trace)
	checkMatch(t, "a loop is not turned into twice", withBans(round, ban(0, 1), ban(2, 2)), trace, 30+6, 0, 1)
	// Two Roads between, there and back again.
	there := withRoads(g, long(1, 3, 3000), long(3, 1, 3000))
	checkMatch(t, "there and back must be driven", withBans(there, ban(0, 1)), trace, 6000+9, 0, 1)
	checkNoMatch(t, "there and back, and no way on", withBans(there, ban(0, 1), ban(3, 1)), trace)
}

// Over the first Road once more one gets nowhere that one did not before; by others one may.
func TestMatchOverTheFirstRoadOnceMore(t *testing.T) {
	g := withRoads(spots(0, 0, 1000, 0, 2000, 0), long(0, 1, 1000), long(1, 2, 1000), long(1, 0, 70))
	// One can go back by Road 2 and over Road 0 once more, but then as little into Road 1 as before.
	checkCost(t, "once more is no help", withBans(g, ban(0, 1)), path(500, 0, 1500, 0), -1, 0, 0)
	checkCost(t, "another one beside is", withBans(withRoads(g, long(0, 1, 600)), ban(0, 1)), path(500, 0, 1500, 0), (500+70+600+500)-1000+9, 0, 0)
	// Back to the same Road by others, and then on to one of them.
	ring := withRoads(spots(0, 0, 1000, 0, 1000, 1000), long(0, 1, 1000), long(1, 2, 1000), long(2, 0, 40))
	checkMatch(t, "back by others", ring, path(700, 0, 300, 0), (300+1000+40+300)-400+9, 0, 0)
	checkMatch(t, "back by others, and on", ring, path(700, 0, 300, 0, 1000, 500), 1249+(700+500)-860+3, 0, 0, 1)
}

func TestMatchOfForbiddenTurns(t *testing.T) {
	g := bypass(1000, 1100, 1200)
	trace := byBypass()
	checkMatch(t, "straight", g, trace, 0+6, 0, 4)
	around := int64(2300 - 1000 + 9)
	checkMatch(t, "forbidden from the first Road on", withBans(g, ban(0, 1)), trace, around, 0, 4)
	checkMatch(t, "forbidden into the second Road", withBans(g, ban(1, 4)), trace, around, 0, 4)
	checkMatch(t, "another is forbidden from the first Road on", withBans(g, ban(0, 2)), trace, 6, 0, 4)
	checkMatch(t, "another is forbidden into the second Road", withBans(g, ban(3, 4)), trace, 6, 0, 4)
	checkMatch(t, "another is forbidden between", withBans(g, ban(2, 3)), trace, 6, 0, 4)
	checkNoMatch(t, "all are forbidden from the first Road on", withBans(g, ban(0, 1), ban(0, 2)), trace)
	checkNoMatch(t, "all are forbidden into the second Road", withBans(g, ban(1, 4), ban(3, 4)), trace)
	checkNoMatch(t, "the one on, the other into", withBans(g, ban(0, 1), ban(3, 4)), trace)
	checkNoMatch(t, "the one on, the other between", withBans(g, ban(0, 1), ban(2, 3)), trace)
	checkNoMatch(t, "the one into, the other between", withBans(g, ban(1, 4), ban(2, 3)), trace)
	// A second Road beside the one that is forbidden between.
	beside := withRoads(g, long(4, 2, 2000))
	checkMatch(t, "forbidden between, with another beside", withBans(beside, ban(0, 1), ban(2, 3)), trace, 3100-1000+9, 0, 4)
	checkMatch(t, "the least of those beside", withBans(beside, ban(0, 1)), trace, around, 0, 4)
	checkMatch(t, "the least of those beside may not go on", withBans(beside, ban(0, 1), ban(3, 4)), trace, 3100-1000+9, 0, 4)
}

func TestMatchByTheLeastWay(t *testing.T) {
	trace := byBypass()
	checkMatch(t, "the same length, of fewer Roads", bypass(1000, 400, 600), trace, 6, 0, 4)
	// What is driven is the least way, though the other one would cost less.
	checkMatch(t, "one less, of more Roads", bypass(1000, 400, 599), trace, 1+9, 0, 4)
	checkMatch(t, "much less, of more Roads", bypass(1000, 100, 100), trace, 800+9, 0, 4)
	checkMatch(t, "one more, of more Roads", bypass(1000, 400, 601), trace, 6, 0, 4)
	checkMatch(t, "one more, of fewer Roads", bypass(1001, 400, 600), trace, 9, 0, 4)
	checkMatch(t, "nothing at all", bypass(0, 0, 0), trace, 1000+6, 0, 4)
	// Times do not count.
	slow := bypass(1000, 500, 600)
	slow.Roads[1].Time = impl.MaxTime
	checkMatch(t, "a slow Road", slow, trace, 6, 0, 4)
	// Nor do turns, however sharp.
	sharp := bypass(1000, 400, 599)
	sharp.Places[4].Point = at(-9000, 200)
	checkMatch(t, "sharp turns", sharp, trace, 1+9, 0, 4)
	// Three Roads of no length are as long as one of none: the fewest count.
	g := withRoads(bypass(1000, 0, 0), long(1, 2, 0))
	checkMatch(t, "fewest of no length", g, trace, 1000+6, 0, 4)
	checkMatch(t, "fewest of no length, forbidden", withBans(g, ban(0, 5)), trace, 1000+9, 0, 4)
}

// Along a way of several Roads, with others that are as long in fewer.
func TestMatchByTheFewestRoads(t *testing.T) {
	// From place 1 to place 2 in four parts, in two and two, or in three by the way.
	g := withRoads(spots(0, 0, 1000, 0, 5000, 0, 6000, 0, 2000, 500, 3000, 500, 4000, 500),
		long(0, 1, 1000), long(1, 4, 1000), long(4, 5, 1000), long(5, 6, 1000), long(6, 2, 1000), long(2, 3, 1000))
	trace := path(500, 0, 5500, 0)
	checkMatch(t, "in four", g, trace, 0+3*5, 0, 5)
	checkMatch(t, "in three", withRoads(g, long(4, 6, 2000)), trace, 0+3*4, 0, 5)
	checkMatch(t, "in two", withRoads(g, long(1, 5, 2000), long(5, 2, 2000)), trace, 0+3*3, 0, 5)
	checkMatch(t, "in three of the last", withRoads(g, long(5, 2, 2000)), trace, 0+3*4, 0, 5)
	checkMatch(t, "in one", withRoads(g, long(1, 2, 4000)), trace, 0+3*2, 0, 5)
	checkMatch(t, "in one, one longer", withRoads(g, long(1, 2, 4001)), trace, 0+3*5, 0, 5)
	checkMatch(t, "in one, forbidden", withBans(withRoads(g, long(1, 2, 4000), long(4, 6, 2000)), ban(0, 6)), trace, 0+3*4, 0, 5)
}

func TestMatchWhereNoneCanFollow(t *testing.T) {
	apart := withRoads(spots(0, 0, 1000, 0, 2000, 0, 3000, 0), long(0, 1, 1000), long(2, 3, 1000))
	checkNoMatch(t, "apart", apart, path(500, 0, 2500, 0))
	checkNoMatch(t, "apart, the other way round", apart, path(2500, 0, 500, 0))
	checkNoMatch(t, "apart between", apart, path(300, 0, 500, 0, 2500, 0, 2600, 0))
	checkMatch(t, "the first alone", apart, path(300, 0, 500, 0), 0, 0, 0)
	checkMatch(t, "the second alone", apart, path(2300, 0, 2500, 0), 0, 1, 1)
	checkNoMatch(t, "against a one-way", avenue(), path(1500, 0, 500, 0))
	checkNoMatch(t, "back in the end", avenue(), path(500, 0, 1500, 0, 3500, 0, 2500, 0))
	// The nearer one can't go on, the farther one can.
	g := withRoads(spots(0, 0, 1000, 0, 0, 40, 1000, 40, 2000, 0), long(0, 1, 1000), long(2, 3, 1000), long(3, 4, 1000))
	checkMatch(t, "the farther one goes on", g, path(500, 5, 1500, 20), 35*35+(500+500)-1000+3, 1, 2)
	checkMatch(t, "the nearer one alone", g, path(500, 5), 25, 0)
	checkMatch(t, "the nearer one, as long as it goes", g, path(500, 5, 600, 5), 50, 0, 0)
}

// Of matches that cost the same the numbers of the candidates are least, from the first point on.
func TestMatchesThatCostTheSame(t *testing.T) {
	g := withRoads(spots(0, 0, 1000, 0), long(0, 1, 1000), long(0, 1, 1000), long(0, 1, 1000))
	checkMatch(t, "one point", g, path(500, 3), 9, 0)
	checkMatch(t, "two points", g, path(500, 3, 600, 3), 18, 0, 0)
	checkMatch(t, "three points", g, path(500, 3, 600, 3, 700, 3), 27, 0, 0, 0)
	checkMatch(t, "seven Roads", loops(7), sameTrace(3, 0, 0), 0, 0, 0, 0)
	// Onto two Roads that are alike, one above the other: as far from the point, and as long.
	fork := withRoads(spots(0, 0, 1000, 0, 2000, 30, 2000, -30), long(0, 1, 1000), long(1, 2, 1000), long(1, 3, 1000))
	checkMatch(t, "a fork", fork, path(500, 0, 2010, 0), 32*32+1510-1500+3, 0, 1)
	fork.Roads[1], fork.Roads[2] = fork.Roads[2], fork.Roads[1]
	checkMatch(t, "a fork, turned", fork, path(500, 0, 2010, 0), 32*32+1510-1500+3, 0, 1)
	// A point between two Roads: at the end of the one, or at the beginning of the other. The numbers decide.
	checkMatch(t, "at a place between", avenue(), path(500, 0, 1000, 0, 1500, 0), 3, 0, 0, 1)
	turned := avenue()
	slices.Reverse(turned.Roads)
	checkMatch(t, "at a place between, turned", turned, path(500, 0, 1000, 0, 1500, 0), 3, 3, 2, 2)
	checkMatch(t, "at two places between", turned, path(500, 0, 1000, 0, 2000, 0, 2500, 0), 6, 3, 2, 1, 1)
}

// The candidates' numbers count, not those of the Roads.
func TestMatchesThatCostTheSameByCandidates(t *testing.T) {
	// Road 0 lies 4 to the south, Road 1 lies 3 to the north: that one is the first candidate. It costs 7 less by itself, and 7 more
	// on the way.
	g := withRoads(spots(0, -4, 1000, -4, 0, 3, 1000, 3, 3000, 0, 4000, 0), long(0, 1, 1000), long(2, 3, 1000), long(1, 4, 2000), long(3, 4, 2007), long(4, 5, 1000))
	trace := path(500, 0, 3500, 0)
	checkCands(t, "by Far", g, trace[0], cand(1, 3, 500), cand(0, 4, 500))
	checkCost(t, "by the north", g, trace, 9+7+6, 0, 0)
	checkCost(t, "by the south", g, trace, 16+6, 1, 0)
	checkMatch(t, "as good", g, trace, 22, 1, 4)
	g.Roads[3].Length++
	checkMatch(t, "the south is better", g, trace, 22, 0, 4)
	g.Roads[3].Length -= 2
	checkMatch(t, "the north is better", g, trace, 21, 1, 4)
}

// The first point decides ahead of the second, whatever the last ones are.
func TestMatchesThatCostTheSameFromTheFirstOn(t *testing.T) {
	// Two pairs of Roads, of which the first of each is not followed by the first of the other.
	g := withRoads(spots(0, 0, 1000, 0, 2000, 0), long(0, 1, 1000), long(0, 1, 1000), long(1, 2, 1000), long(1, 2, 1000))
	g = withBans(g, ban(0, 2), ban(1, 3))
	trace := path(500, 0, 1500, 0)
	checkCost(t, "first and first", g, trace, -1, 0, 0)
	checkCost(t, "first and second", g, trace, 3, 0, 1)
	checkCost(t, "second and first", g, trace, 3, 1, 0)
	checkCost(t, "second and second", g, trace, -1, 1, 1)
	checkMatch(t, "the first decides", g, trace, 3, 0, 3)
	checkMatch(t, "the first two decide", g, path(400, 0, 500, 0, 1500, 0, 1600, 0), 3, 0, 0, 3, 3)
	checkMatch(t, "the first can't", withBans(g, ban(0, 2), ban(0, 3), ban(1, 3)), trace, 3, 1, 2)
}

// What is best so far need not be best in the end.
func TestMatchOfTheWholeTrace(t *testing.T) {
	// Two lanes that lie beside each other, of which only the farther one leads on.
	g := withRoads(spots(0, 0, 4000, 0, 0, 20, 4000, 20, 5000, 20), long(0, 1, 4000), long(2, 3, 4000), long(3, 4, 1000))
	trace := path(500, 5, 1500, 5, 2500, 5, 4500, 20)
	checkMatch(t, "on the nearer lane", g, trace[:3], 75, 0, 0, 0)
	checkMatch(t, "on the farther lane", g, trace, 3*225+3, 1, 1, 1, 2)
	// With a way over from the nearer lane one goes there in the end.
	over := withRoads(g, long(1, 3, 20))
	checkMatch(t, "over to the farther lane", over, trace, 75+20+6, 0, 0, 0, 2)
}

func TestMatchOfWhatCantBe(t *testing.T) {
	g := avenue()
	spoiled(path(500, 0, 600, 0, 1500, 0), func(trace []impl.Point) {
		checkNoMatch(t, "points that can't be", g, trace)
		checkCost(t, "points that can't be", g, trace, -1, 0, 0, 0)
	})
	for _, p := range outside() {
		checkNoMatch(t, "a point that can't be", g, []impl.Point{p})
		checkCost(t, "a point that can't be", g, []impl.Point{p}, -1, 0)
		full := sameTrace(40, 500, 0)
		full[39] = p
		checkNoMatch(t, "a last point that can't be", g, full)
		checkCost(t, "a last point that can't be", g, full, -1, make([]int64, 40)...)
	}
	for _, bad := range badGraphs() {
		checkNoMatch(t, bad.name, bad.graph, path(0, 0))
		checkNoMatch(t, bad.name, bad.graph, path(5, 0, 0, 5))
		checkNoMatch(t, bad.name, bad.graph, nil)
		checkCost(t, bad.name, bad.graph, path(0, 0), -1, 0)
		checkCost(t, bad.name, bad.graph, path(5, 0, 6, 0), -1, 0, 0)
		checkCost(t, bad.name, bad.graph, nil, -1)
	}
}

func TestMatchCostOfPicks(t *testing.T) {
	g := avenue()
	// At the places between there are two candidates, else one.
	trace := path(500, 0, 1000, 7, 1500, 0)
	checkCost(t, "the first ones", g, trace, 49+3, 0, 0, 0)
	checkCost(t, "the last ones", g, trace, 49+3, 0, 1, 0)
	for _, off := range append(farNumbers(), 6) {
		checkCost(t, "the first is none", g, trace, -1, off, 0, 0)
		checkCost(t, "the second is none", g, trace, -1, 0, off, 0)
		checkCost(t, "the third is none", g, trace, -1, 0, 0, off)
		checkCost(t, "one alone is none", g, trace[:1], -1, off)
	}
	checkCost(t, "one beyond the first ones", g, trace, -1, 1, 0, 0)
	checkCost(t, "one beyond the second ones", g, trace, -1, 0, 2, 0)
	checkCost(t, "one beyond the third ones", g, trace, -1, 0, 0, 1)
	checkCost(t, "as many as may be, the last", loops(9), sameTrace(1, 0, 2), 4, 5)
	checkCost(t, "as many as may be, one beyond", loops(9), sameTrace(1, 0, 2), -1, 6)
	checkCost(t, "fewer", g, trace, -1, 0, 0)
	checkCost(t, "one", g, trace, -1, 0)
	checkCost(t, "none", g, trace, -1)
	checkCost(t, "more", g, trace, -1, 0, 0, 0, 0)
	checkCost(t, "very many", g, trace, -1, make([]int64, 1<<16)...)
	checkCost(t, "an empty trace", g, nil, -1)
	checkCost(t, "an empty trace", g, []impl.Point{}, -1)
	checkCost(t, "an empty trace and a pick", g, nil, -1, 0)
	checkCost(t, "no graph and nothing else", impl.Graph{}, nil, -1)
	checkCost(t, "two that can't follow each other", g, path(1500, 0, 500, 0), -1, 0, 0)
	checkCost(t, "two that can't follow each other, first", g, path(1500, 0, 500, 0, 600, 0), -1, 0, 0, 0)
	checkCost(t, "two that can't follow each other, last", g, path(500, 0, 1500, 0, 1400, 0), -1, 0, 0, 0)
	checkCost(t, "forty", g, sameTrace(40, 500, 2), 160, make([]int64, 40)...)
	checkCost(t, "forty-one", g, sameTrace(41, 500, 2), -1, make([]int64, 41)...)
	// A match that is not the least one costs what it costs.
	checkCost(t, "the farther one", g, path(1010, 0), 100, 1)
	checkCost(t, "the farther one first", g, path(1010, 0, 1500, 0), 100+(0+500-490)+3, 1, 0)
}
