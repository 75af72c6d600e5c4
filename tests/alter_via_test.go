package tests

import (
	"math"
	"slices"
	"testing"

	"loop.example/g00024/impl"
)

// Promise 12, of WishOk, Common, Loops and Via: what is wished, and what is best by way of some place.

func TestWishOk(t *testing.T) {
	check := func(w impl.Wish, want bool) {
		t.Helper()
		if impl.WishOk(w) != want {
			t.Error(w, !want)
		}
	}
	for most := int64(-1); most <= 12; most++ {
		check(wish(most, 50, 70), most >= 1 && most <= 10)
	}
	for longer := int64(-2); longer <= 1003; longer++ {
		check(wish(3, longer, 70), longer >= 0 && longer <= 1000)
	}
	for shared := int64(-2); shared <= 103; shared++ {
		check(wish(3, 50, shared), shared >= 0 && shared <= 100)
	}
	check(wish(1, 0, 0), true)
	check(wish(10, 1000, 100), true)
	check(impl.Wish{}, false)
	for _, far := range []int64{math.MinInt64, math.MaxInt64} {
		check(wish(far, 50, 70), false)
		check(wish(3, far, 70), false)
		check(wish(3, 50, far), false)
	}
}

func TestCommon(t *testing.T) {
	g := onWays(10, 7, 1000000, 1)
	checkCommon(t, "one", g, []int64{0, 1}, []int64{1, 2}, 7)
	checkCommon(t, "all", g, []int64{0, 1, 2, 3}, []int64{3, 2, 1, 0}, 1000018)
	checkCommon(t, "the same list", g, []int64{0, 3}, []int64{0, 3}, 11)
	checkCommon(t, "the last one", g, []int64{3}, []int64{3}, 1)
	checkCommon(t, "none", g, []int64{0, 2}, []int64{1, 3}, 0)
	checkCommon(t, "a Road twice in one", g, []int64{0, 2, 0}, []int64{0, 1}, 10)
	checkCommon(t, "a Road twice in both", g, []int64{0, 0, 1, 0}, []int64{3, 0, 0}, 10)
	checkCommon(t, "two Roads twice in both", g, []int64{0, 1, 0, 1}, []int64{1, 0, 1, 0}, 17)
	checkCommon(t, "another Road of the same way", g, []int64{1}, []int64{2}, 0)
	for _, none := range [][]int64{nil, {}} {
		checkCommon(t, "an empty list", g, none, []int64{0, 1}, 0)
		checkCommon(t, "two empty lists", g, none, nil, 0)
		checkCommon(t, "empty lists of no graph", impl.Graph{}, none, nil, 0)
	}
	// Turns do not count, though their times do in a path.
	checkCommon(t, "with a turn", crossing(10, 10, 10, 11, 10), []int64{0, 1}, []int64{0, 1}, 20)
	many := withTimes(loops(8000), slices.Repeat([]int64{1000000}, 8000)...)
	var every []int64
	for i := range int64(8000) {
		every = append(every, i)
	}
	checkCommon(t, "as many as may be", many, every, slices.Repeat(every, 2), 8000000000)
}

func TestCommonOfRoadsThatCantBe(t *testing.T) {
	g := onWays(10, 7, 1000000, 1)
	for _, bad := range append(farNumbers(), 4) {
		for i := range 3 {
			list := []int64{0, 1, 3}
			list[i] = bad
			checkCommon(t, "one can't be", g, list, []int64{0, 1, 3}, 0)
			checkCommon(t, "one can't be", g, list, nil, 0)
			checkCommon(t, "one in both can't be", g, list, list, 0)
		}
	}
	checkCommon(t, "no Roads", manyPlaces(3), []int64{0}, []int64{0}, 0)
	for _, bad := range badGraphs() {
		checkCommon(t, bad.name, bad.graph, []int64{0, 2}, []int64{0, 2}, 0)
	}
}

func TestLoops(t *testing.T) {
	// Round over 0, 1, 2 and 3, back from 1 to 0, from 2 to 0 and from 3 to 1; and at 2 one that leads to where it begins.
	g := onOnePoint(4, timed(0, 1, 1), timed(1, 2, 1), timed(2, 3, 1), timed(3, 0, 1), timed(1, 0, 1), timed(2, 0, 1), timed(3, 1, 1), timed(2, 2, 1))
	checkLoops(t, "empty", g, false)
	checkLoops(t, "one Road", g, false, 0)
	checkLoops(t, "two Roads", g, false, 0, 1)
	checkLoops(t, "three Roads", g, false, 0, 1, 2)
	checkLoops(t, "from a place to itself", g, true, 7)
	checkLoops(t, "from a place to itself at the end", g, true, 0, 1, 7)
	checkLoops(t, "from a place to itself on the way", g, true, 1, 7, 2)
	checkLoops(t, "back at once", g, true, 0, 4)
	checkLoops(t, "back to the beginning by another place", g, true, 0, 1, 5)
	checkLoops(t, "round", g, true, 0, 1, 2, 3)
	checkLoops(t, "back to the beginning and on", g, true, 1, 2, 6)
	checkLoops(t, "to a place between", g, true, 0, 1, 2, 6)
	checkLoops(t, "to a place between and on", g, true, 0, 1, 2, 6, 4)
	checkLoops(t, "on behind the beginning", g, false, 1, 5)
	checkLoops(t, "the same Road twice", g, true, 0, 0)
	// The places are all that is asked for: not whether a turn is forbidden.
	checkLoops(t, "a forbidden turn", withBans(g, ban(0, 1)), false, 0, 1)
	// Nor whether each begins where the one ahead ends: the first one's beginning and all ends are what one comes to.
	checkLoops(t, "Roads that do not meet", g, false, 0, 2)
	checkLoops(t, "Roads that do not meet, to the same end", g, true, 0, 6)
	checkLoops(t, "Roads that do not meet, to the beginning", g, true, 0, 3)
}

func TestLoopsOfRoadsThatCantBe(t *testing.T) {
	g := onOnePoint(3, timed(0, 1, 1), timed(1, 0, 1), timed(1, 2, 1))
	for _, bad := range append(farNumbers(), 3) {
		checkLoops(t, "one alone that can't be", g, false, bad)
		for i := range 4 {
			checkLoops(t, "one can't be, wherever it stands", g, false, slices.Insert([]int64{0, 1, 0}, i, bad)...)
		}
	}
	checkLoops(t, "no Roads", manyPlaces(3), false, 0)
	checkLoops(t, "no graph", impl.Graph{}, false)
	for _, bad := range badGraphs() {
		checkLoops(t, bad.name, bad.graph, false, 0, 1)
		checkLoops(t, bad.name, bad.graph, false)
	}
}

func TestVia(t *testing.T) {
	g := crossing(10, 10, 10, 11, 10)
	checkVia(t, "by the middle, to the left", g, 0, 1, 2, 25, 0, 1)
	checkVia(t, "by the middle, to the right", g, 0, 1, 3, 23, 0, 2)
	checkVia(t, "by the northwest", g, 0, 4, 2, 24, 3, 4)
	checkVia(t, "by way of the beginning", g, 0, 0, 2, 24, 3, 4)
	checkVia(t, "by way of the end", g, 0, 2, 2, 24, 3, 4)
	checkVia(t, "one Road by way of its beginning", g, 1, 1, 3, 10, 2)
	checkVia(t, "one Road by way of its end", g, 1, 3, 3, 10, 2)
	checkVia(t, "nowhere", g, 3, 3, 3, 0)
	checkNoVia(t, "the first is not found", g, 0, 3, 2)
	checkNoVia(t, "the second is not found", g, 1, 2, 3)
	checkNoVia(t, "neither is found", g, 3, 0, 4)
	checkNoVia(t, "to itself, the way there is not found", g, 2, 1, 2)
	checkNoVia(t, "by way of the beginning, and there is no way", g, 3, 3, 0)
	checkNoVia(t, "by way of the end, and there is no way", g, 3, 0, 0)
	checkNoVia(t, "the turn is forbidden", withBans(g, ban(0, 1)), 0, 1, 2)
	checkVia(t, "another turn is forbidden", withBans(g, ban(0, 1)), 0, 1, 3, 23, 0, 2)
	checkVia(t, "by way of the beginning, the best way's turn forbidden", withBans(g, ban(3, 4)), 0, 0, 2, 25, 0, 1)
}

// From a place to itself the best path is the empty one, but by way of another place one drives.
func TestViaToItself(t *testing.T) {
	g := crossroads()
	checkVia(t, "there and back", g, 1, 0, 1, 1+20+1, 3, 2)
	checkVia(t, "from the middle and back", g, 0, 1, 0, 1+20+1, 2, 3)
	checkVia(t, "farther and back", g, 1, 3, 1, 1+0+1+20+1+0+1, 3, 1, 0, 2)
	checkVia(t, "by way of itself", g, 2, 2, 2, 0)
	checkNoVia(t, "back is forbidden", withBans(g, ban(2, 3)), 0, 1, 0)
	checkNoVia(t, "back is forbidden in a graph", impl.NoBack(g), 1, 0, 1)
	checkVia(t, "by way of itself, where a Road leads there", loops(2), 0, 0, 0, 0)
}

func TestViaWithEachTurn(t *testing.T) {
	g := star()
	for a := range int64(8) {
		for b := range int64(8) {
			turn := turnIn(g, a, 8+b)
			checkVia(t, "over the middle", g, a+1, 0, b+1, 2+turn, a, 8+b)
			checkNoVia(t, "over the middle, forbidden", withBans(g, ban(a, 8+b)), a+1, 0, b+1)
		}
	}
}

// Both parts are the best ones by themselves, though another one would be easier to go on with.
func TestViaOfThePartsThatAreBest(t *testing.T) {
	g := impl.Graph{
		Places: []impl.Spot{spotAt(1, -50, 0), spotAt(2, 0, 0), spotAt(3, 0, -50), spotAt(4, 0, 50)},
		Roads:  []impl.Road{timed(0, 1, 10), timed(0, 2, 4), timed(2, 1, 3), timed(1, 3, 1)},
	}
	checkBest(t, "the easier one", g, 0, 3, 13, 1, 2, 3)
	checkVia(t, "the quicker one to the middle", g, 0, 1, 3, 16, 0, 3)
	checkVia(t, "by the south", g, 0, 2, 3, 13, 1, 2, 3)
	checkNoVia(t, "the quicker one can't go on", withBans(g, ban(0, 3)), 0, 1, 3)
	// Of parts that take as long the fewest Roads count, then the least numbers, whatever comes behind them.
	g = onOnePoint(4, timed(0, 1, 3), timed(0, 1, 3), timed(1, 2, 4), timed(1, 2, 4), timed(0, 3, 1), timed(3, 1, 2))
	checkVia(t, "the least numbers", g, 0, 1, 2, 7, 0, 2)
	checkNoVia(t, "the least numbers can't follow each other", withBans(g, ban(0, 2)), 0, 1, 2)
	checkVia(t, "others are forbidden", withBans(g, ban(0, 3), ban(1, 2)), 0, 1, 2, 7, 0, 2)
	// The first Road decides, though the last ones stand the other way round.
	g = onOnePoint(6, timed(4, 1, 1), timed(0, 3, 1), timed(0, 4, 1), timed(3, 1, 1), timed(1, 2, 1))
	checkVia(t, "the first decides", g, 0, 1, 2, 3, 1, 3, 4)
	g = onOnePoint(7, timed(5, 1, 1), timed(6, 1, 1), timed(0, 3, 1), timed(3, 6, 1), timed(3, 5, 1), timed(1, 2, 1))
	checkVia(t, "the second decides", g, 0, 1, 2, 4, 2, 3, 1, 5)
	g.Roads[3], g.Roads[4] = g.Roads[4], g.Roads[3]
	checkVia(t, "the second decides", g, 0, 1, 2, 4, 2, 3, 0, 5)
}

func TestViaOfWhatCantBe(t *testing.T) {
	g := crossing(10, 10, 10, 11, 10)
	for _, bad := range append(farNumbers(), 5) {
		checkNoVia(t, "from a place that can't be", g, bad, 1, 2)
		checkNoVia(t, "by way of a place that can't be", g, 0, bad, 2)
		checkNoVia(t, "by way of a place that can't be, to itself", g, 0, bad, 0)
		checkNoVia(t, "to a place that can't be", g, 0, 1, bad)
		checkNoVia(t, "places that can't be", g, bad, bad, bad)
	}
	checkNoVia(t, "no places at all", impl.Graph{}, 0, 0, 0)
	for _, bad := range badGraphs() {
		checkNoVia(t, bad.name, bad.graph, 0, 0, 0)
		checkNoVia(t, bad.name, bad.graph, 0, 1, 2)
	}
}

// On small graphs, drawn: a Via is the two BestPaths one behind the other.
func TestViaSaysWhatTheBestPathsSay(t *testing.T) {
	tell := numbers(140)
	found, forbidden, loop := 0, 0, 0
	for range 6000 {
		places := int64(1 + tell.Intn(7))
		g := someStreets(tell, int(places), tell.Intn(5*int(places)))
		s, v, e := tell.Int63n(places), tell.Int63n(places), tell.Int63n(places)
		got, a, b := impl.Via(g, s, v, e), impl.BestPath(g, s, v), impl.BestPath(g, v, e)
		checkPath(t, "drawn", got, viaOf(g, s, v, e))
		checkPath(t, "by BestPath", got, joinedIn(g, a, b))
		if got.Found {
			checkPathTime(t, "drawn", g, got.Roads, s, e, got.Time)
		}
		both := append(slices.Clone(a.Roads), b.Roads...)
		checkLoops(t, "drawn", g, loopsOf(g, both), both...)
		other := impl.BestPath(g, e, s).Roads
		checkCommon(t, "drawn", g, both, other, commonOf(g, both, other))
		found += count(len(a.Roads) > 0 && len(b.Roads) > 0 && got.Found)
		forbidden += count(a.Found && b.Found && !got.Found)
		loop += count(impl.Loops(g, both))
		if t.Failed() {
			t.Fatal(g, s, v, e)
		}
	}
	if found < 500 || forbidden < 80 || loop < 300 {
		t.Error("too few of a kind:", found, forbidden, loop)
	}
}
