package tests

import (
	"math"
	"slices"
	"testing"

	"loop.example/g00024/impl"
)

// Promise 10, of BestPath, Reach and FirstRoads: each path is a best one under its costs and bans, told by the stated order.

func TestBestPathToItself(t *testing.T) {
	for _, g := range []impl.Graph{crossroads(), loops(3), manyPlaces(4), star(), withBans(loops(1), ban(0, 0))} {
		for s := range int64(len(g.Places)) {
			checkBest(t, "to itself", g, s, s, 0)
		}
	}
}

func TestBestPathOfOneRoad(t *testing.T) {
	g := onOnePoint(4, timed(0, 1, 7), timed(2, 1, 9))
	checkBest(t, "one Road", g, 0, 1, 7, 0)
	checkBest(t, "the last Road", g, 2, 1, 9, 1)
	checkNoWay(t, "against it", g, 1, 0)
	checkNoWay(t, "behind it there is none", g, 0, 2)
	checkNoWay(t, "no Road leads there", g, 0, 3)
	checkNoWay(t, "no Road begins there", g, 3, 1)
	checkReach(t, "from the first", g, 0, 0, 7, -1, -1)
	checkReach(t, "from where none begins", g, 1, -1, 0, -1, -1)
	checkReach(t, "from a place without Roads", g, 3, -1, -1, -1, 0)
	checkFirst(t, "to where both lead", g, 1, 7, 9)
	checkFirst(t, "to where none leads", g, 0, -1, -1)
	checkFirst(t, "to a place without Roads", g, 3, -1, -1)
}

func TestBestPathTakesTheLeastTime(t *testing.T) {
	// Straight there in 10, by 2 in 9, by 2 and 3 in 8.
	g := onOnePoint(4, timed(0, 1, 10), timed(0, 2, 4), timed(2, 1, 5), timed(2, 3, 2), timed(3, 1, 2))
	checkBest(t, "three Roads", g, 0, 1, 8, 1, 3, 4)
	checkReach(t, "three Roads", g, 0, 0, 8, 4, 6)
	checkFirst(t, "three Roads", g, 1, 10, 8, 5, 4, 2)
	checkBest(t, "three Roads, one forbidden turn", withBans(g, ban(1, 3)), 0, 1, 9, 1, 2)
	checkBest(t, "three Roads, another", withBans(g, ban(3, 4)), 0, 1, 9, 1, 2)
	checkBest(t, "three Roads, two forbidden turns", withBans(g, ban(1, 2), ban(1, 3)), 0, 1, 10, 0)
	checkFirst(t, "three Roads, two forbidden turns", withBans(g, ban(1, 2), ban(1, 3)), 1, 10, -1, 5, 4, 2)
	checkReach(t, "three Roads, two forbidden turns", withBans(g, ban(1, 2), ban(1, 3)), 0, 0, 10, 4, -1)
	checkNoWay(t, "all forbidden", withBans(g, ban(1, 3)), 0, 3)
	checkBest(t, "of two Roads the quicker one", onOnePoint(2, timed(0, 1, 3), timed(0, 1, 2), timed(0, 1, 3)), 0, 1, 2, 1)
}

// Of the same time the fewest Roads count, wherever their numbers stand.
func TestBestPathTakesTheFewestRoads(t *testing.T) {
	checkBest(t, "one of 6, behind", onOnePoint(3, timed(0, 2, 3), timed(2, 1, 3), timed(0, 1, 6)), 0, 1, 6, 2)
	checkBest(t, "one of 6, ahead", onOnePoint(3, timed(0, 1, 6), timed(0, 2, 3), timed(2, 1, 3)), 0, 1, 6, 0)
	checkBest(t, "one of 7", onOnePoint(3, timed(0, 2, 3), timed(2, 1, 3), timed(0, 1, 7)), 0, 1, 6, 0, 1)
	g := onOnePoint(5, timed(0, 2, 1), timed(2, 3, 1), timed(3, 1, 1), timed(0, 4, 1), timed(4, 1, 2))
	checkBest(t, "two against three", g, 0, 1, 3, 3, 4)
	g.Roads[4].Time = 3
	checkBest(t, "three are quicker", g, 0, 1, 3, 0, 1, 2)
	// The fewest are told from the end: both begin alike.
	g = onOnePoint(5, timed(0, 2, 1), timed(2, 3, 1), timed(3, 4, 1), timed(4, 1, 1), timed(2, 4, 2))
	checkBest(t, "the same beginning", g, 0, 1, 4, 0, 4, 3)
	// Time that is spent on a turn, here of 5, counts as much.
	g = onOnePoint(4, timed(0, 2, 1), timed(2, 3, 1), timed(3, 1, 1), timed(0, 1, 8))
	g.Places[3].Point = at(4, 4)
	checkBest(t, "one against three with a turn", g, 0, 1, 8, 3)
	g.Roads[3].Time = 9
	checkBest(t, "three with a turn are quicker", g, 0, 1, 8, 0, 1, 2)
}

func TestBestPathTakesTheLeastNumbers(t *testing.T) {
	checkBest(t, "of Roads side by side the first", onOnePoint(2, timed(0, 1, 3), timed(0, 1, 3), timed(0, 1, 3)), 0, 1, 3, 0)
	checkBest(t, "of Roads side by side the first, in the middle", onOnePoint(4, timed(2, 1, 1), timed(3, 2, 1), timed(3, 2, 1), timed(0, 3, 1)), 0, 1, 3, 3, 1, 0)
	// 0 1 against 2 3: the first Road decides.
	checkBest(t, "the first decides", onOnePoint(4, timed(0, 2, 1), timed(0, 3, 1), timed(3, 1, 1), timed(2, 1, 1)), 0, 1, 2, 0, 3)
	// 1 5 2 against 3 0 4.
	g := onOnePoint(6, timed(4, 5, 1), timed(0, 2, 1), timed(3, 1, 1), timed(0, 4, 1), timed(5, 1, 1), timed(2, 3, 1))
	checkBest(t, "the first decides, not the last", g, 0, 1, 3, 1, 5, 2)
	// 2 0 and 1 behind it against 2 3 and 0.
	g = onOnePoint(5, timed(3, 1, 1), timed(4, 1, 1), timed(0, 2, 1), timed(2, 3, 1), timed(2, 4, 1))
	checkBest(t, "the second decides", g, 0, 1, 3, 2, 3, 0)
	g = onOnePoint(5, timed(3, 1, 1), timed(4, 1, 1), timed(0, 2, 1), timed(2, 4, 1), timed(2, 3, 1))
	checkBest(t, "the second decides, not the third", g, 0, 1, 3, 2, 3, 1)
	// A number is none of its digits.
	var many []impl.Road
	for i := range int64(9) {
		many = append(many, timed(2, 3+i, 1))
	}
	many = append(many, timed(0, 2, 1), timed(0, 2, 1), timed(3, 1, 1), timed(4, 1, 1))
	checkBest(t, "9 ahead of 10", onOnePoint(12, many...), 0, 1, 3, 9, 0, 11)
	// Of the Times and turns only their sum counts.
	g = onOnePoint(4, timed(0, 2, 5), timed(0, 3, 1), timed(2, 1, 1), timed(3, 1, 5))
	checkBest(t, "other Times, the same sum", g, 0, 1, 6, 0, 2)
	checkBest(t, "other Times, the same sum, forbidden", withBans(g, ban(0, 2)), 0, 1, 6, 1, 3)
}

// crossing has place 0 in the west, 1 in the middle, 2 in the north and 3 in the south; 4 lies northwest.
func crossing(times ...int64) impl.Graph {
	g := impl.Graph{Places: []impl.Spot{spotAt(1, -100, 0), spotAt(2, 0, 0), spotAt(3, 0, 100), spotAt(4, 0, -100), spotAt(5, -100, 100)}}
	for i, ends := range [][]int64{{0, 1}, {1, 2}, {1, 3}, {0, 4}, {4, 2}} {
		g.Roads = append(g.Roads, timed(ends[0], ends[1], times[i]))
	}
	return g
}

func TestBestPathBecauseOfTurns(t *testing.T) {
	checkBest(t, "to the left", crossing(10, 10, 10, 20, 20), 0, 2, 25, 0, 1)
	checkBest(t, "to the right", crossing(10, 10, 10, 20, 20), 0, 3, 23, 0, 2)
	// To the right on the other side of the square, which costs 3 and not 5.
	checkBest(t, "the other side by as much as the turns", crossing(10, 10, 10, 11, 11), 0, 2, 25, 0, 1)
	checkBest(t, "the other side by less than the turns", crossing(10, 10, 10, 11, 10), 0, 2, 24, 3, 4)
	checkBest(t, "the other side, numbers that are less", crossing(11, 11, 10, 12, 12), 0, 2, 27, 0, 1)
	checkReach(t, "the other side", crossing(10, 10, 10, 11, 10), 0, 0, 10, 24, 23, 11)
	checkFirst(t, "the other side", crossing(10, 10, 10, 11, 10), 2, 25, 10, -1, 24, 10)
}

// To a place by one Road is quicker, by another it is easier to go on: both must be known there.
func TestBestPathGoesOnFromASlowerRoad(t *testing.T) {
	// From 0 to 1: by Road 0 in 10, or by Roads 1 and 2 in 12; from there on 3 leads straight on from Road 2, to the left from Road 0.
	g := impl.Graph{
		Places: []impl.Spot{spotAt(1, -50, 0), spotAt(2, 0, 0), spotAt(3, 0, -50), spotAt(4, 0, 50)},
		Roads:  []impl.Road{timed(0, 1, 10), timed(0, 2, 4), timed(2, 1, 3), timed(1, 3, 1)},
	}
	checkBest(t, "the quicker one to the middle", g, 0, 1, 10, 0)
	checkBest(t, "the easier one to the end", g, 0, 3, 13, 1, 2, 3)
	checkReach(t, "both", g, 0, 0, 10, 4, 13)
	g.Bans = []impl.Ban{ban(2, 3)}
	checkBest(t, "the easier one is forbidden", g, 0, 3, 16, 0, 3)
	g.Bans = []impl.Ban{ban(0, 3)}
	g.Roads[2].Time = 500
	checkBest(t, "the quicker one is forbidden", g, 0, 3, 510, 1, 2, 3)
	checkReach(t, "the quicker one is forbidden", g, 0, 0, 10, 4, 510)
	checkFirst(t, "the quicker one is forbidden", g, 3, -1, 510, 501, 1)
}

func TestBestPathComesByAPlaceTwice(t *testing.T) {
	// West, middle, north, and a round from the middle to the middle.
	g := impl.Graph{
		Places: []impl.Spot{spotAt(1, -50, 0), spotAt(2, 0, 0), spotAt(3, 0, 50), spotAt(4, 50, 0), spotAt(5, 25, -40)},
		Roads:  []impl.Road{timed(0, 1, 10), timed(1, 2, 10), timed(1, 3, 10), timed(3, 4, 10), timed(4, 1, 10)},
	}
	checkBest(t, "at once", g, 0, 2, 25, 0, 1)
	checkBest(t, "because of a Ban", withBans(g, ban(0, 1)), 0, 2, 56, 0, 2, 3, 4, 1)
	checkNoWay(t, "a Ban behind the round too", withBans(g, ban(0, 1), ban(4, 1)), 0, 2)
	checkFirst(t, "because of a Ban", withBans(g, ban(0, 1)), 2, 56, 10, 46, 33, 20)
}

func TestBestPathComesByAPlaceTwiceBecauseOfTurns(t *testing.T) {
	// From the west to 0, from where one must not turn off to the north; behind it the middle 1, and a round from there.
	g := impl.Graph{
		Places: []impl.Spot{spotAt(1, -50, 0), spotAt(2, 0, 0), spotAt(3, -50, 50), spotAt(4, 50, 0), spotAt(5, 25, -40), spotAt(6, -90, 0)},
		Roads:  []impl.Road{timed(5, 0, 1), timed(0, 2, 1), timed(0, 1, 1), timed(1, 0, 1), timed(1, 3, 1), timed(3, 4, 1), timed(4, 1, 1)},
		Bans:   []impl.Ban{ban(0, 1)},
	}
	// Back at once costs 20, the round its three Roads and 3 and 3.
	checkBest(t, "round", g, 5, 2, 16, 0, 2, 4, 5, 6, 3, 1)
	checkFirst(t, "round", g, 2, 16, 1, 15, 5, 14, 10, 6)
	g.Roads[4].Time = 11
	checkBest(t, "still quicker", g, 5, 2, 26, 0, 2, 4, 5, 6, 3, 1)
	g.Roads[4].Time = 12
	checkBest(t, "as quick, with more Roads", g, 5, 2, 27, 0, 2, 3, 1)
	g.Roads[4].Time = 13
	checkBest(t, "slower", g, 5, 2, 27, 0, 2, 3, 1)
	checkReach(t, "slower", g, 5, 1, 2, 27, 15, 19, 0)
}

func TestBestPathBackByARoadToItself(t *testing.T) {
	// To the end at 1, and back by 0 to 2.
	g := impl.Graph{
		Places: []impl.Spot{spotAt(1, 0, 0), spotAt(2, 10, 0), spotAt(3, 0, 9)},
		Roads:  []impl.Road{timed(0, 1, 1), timed(1, 0, 1), timed(0, 2, 1), timed(1, 1, 18)},
	}
	checkFirst(t, "round", withBans(g, ban(0, 1)), 2, 1+18+1+3+1, 1+3+1, 1, 18+1+3+1)
	checkFirst(t, "round", g, 2, 24, 5, 1, 23)
	g.Roads[3].Time = 19
	checkFirst(t, "round", g, 2, 25, 5, 1, 24)
	g.Roads[3].Time = 20
	checkFirst(t, "round in as much as back", g, 2, 26, 5, 1, 25)
	g.Roads[3].Time = 21
	checkFirst(t, "there and back", g, 2, 26, 5, 1, 26)
	// The place where it begins is come by twice, because at first one can't go on from there.
	g = impl.Graph{
		Places: []impl.Spot{spotAt(1, -9, 0), spotAt(2, 0, 0), spotAt(3, 9, 0), spotAt(4, 0, 9)},
		Roads:  []impl.Road{timed(0, 1, 1), timed(1, 3, 1), timed(1, 2, 1), timed(2, 1, 1), timed(1, 1, 7)},
	}
	checkBest(t, "to the left", g, 0, 3, 7, 0, 1)
	checkBest(t, "round", withBans(g, ban(0, 1)), 0, 3, 9, 0, 4, 1)
	g.Roads[4].Time = 100
	checkBest(t, "there and back", withBans(g, ban(0, 1)), 0, 3, 1+1+20+1+3+1, 0, 2, 3, 1)
	checkBest(t, "there and round and back", withBans(g, ban(0, 1), ban(2, 3)), 0, 3, 102, 0, 4, 1)
	checkNoWay(t, "no way", withBans(g, ban(0, 1), ban(2, 3), ban(4, 1)), 0, 3)
}

func TestBestPathOfGreatTimes(t *testing.T) {
	g := onOnePoint(3, timed(0, 1, impl.MaxTime), timed(1, 2, 1000000))
	g.Roads[1].Length = 1000000000
	checkBest(t, "one", g, 0, 1, 1000000, 0)
	checkBest(t, "two", g, 0, 2, 2000000, 0, 1)
	checkReach(t, "two", g, 0, 0, 1000000, 2000000)
	checkFirst(t, "two", g, 2, 2000000, 1000000)
}

func TestPathsWhereThereIsNothing(t *testing.T) {
	g := manyPlaces(3)
	checkNoWay(t, "no Roads", g, 0, 1)
	checkReach(t, "no Roads", g, 1, -1, 0, -1)
	checkFirst(t, "no Roads", g, 1)
	checkNoWay(t, "no places", impl.Graph{}, 0, 0)
	checkReach(t, "no places", impl.Graph{}, 0)
	checkFirst(t, "no places", impl.Graph{}, 0)
	g = crossroads()
	for _, n := range []int64{math.MinInt64, -4, -1, 4, 5, math.MaxInt64} {
		checkNoWay(t, "from a place that can't be", g, n, 0)
		checkNoWay(t, "to a place that can't be", g, 0, n)
		checkNoWay(t, "places that can't be", g, n, n)
		checkReach(t, "from a place that can't be", g, n)
		checkFirst(t, "to a place that can't be", g, n)
	}
	checkBest(t, "the last place", g, 3, 2, 7, 0, 4)
	checkReach(t, "the last place", g, 3, 1, 2, 7, 0)
	checkFirst(t, "the last place", g, 3, 22, 1, 23, 2, 26, 5)
	for _, bad := range badGraphs() {
		checkNoWay(t, bad.name, bad.graph, 1, 2)
		checkNoWay(t, bad.name, bad.graph, 0, 0)
		checkReach(t, bad.name, bad.graph, 0)
		checkFirst(t, bad.name, bad.graph, 0)
	}
}

// checkAllPaths holds everything that is said of a graph against the paths that were found for it, by beginning and end.
func checkAllPaths(t *testing.T, g impl.Graph, from func(g impl.Graph, s int64) []impl.Path) {
	t.Helper()
	for s := range int64(len(g.Places)) {
		var times []int64
		for e, want := range from(g, s) {
			got := impl.BestPath(g, s, int64(e))
			checkPath(t, "the best path", got, want)
			if !want.Found {
				times = append(times, -1)
				continue
			}
			times = append(times, want.Time)
			checkPathTime(t, "the best path", g, got.Roads, s, int64(e), got.Time)
		}
		checkReach(t, "the best paths", g, s, times...)
	}
	if t.Failed() {
		t.Fatal(g)
	}
}

func TestAllPathsOfSmallGraphs(t *testing.T) {
	tell := numbers(120)
	for range 4000 {
		g := someStreets(tell, 1+tell.Intn(4), tell.Intn(7))
		checkAllPaths(t, g, pathsFrom)
		for e := range int64(len(g.Places)) {
			checkFirst(t, "all paths", g, e, firstTimesOf(g, e)...)
		}
	}
}

// Every graph of three places with so many Roads of 1 or 2 seconds.
func TestAllPathsOfAllGraphs(t *testing.T) {
	points := []impl.Point{at(0, 0), at(5, 0), at(0, 5)}
	for count := range 4 {
		for code := range power(18, count) {
			g := impl.Graph{}
			for i, p := range points {
				g.Places = append(g.Places, impl.Spot{Id: int64(i + 1), Point: p})
			}
			for range count {
				g.Roads = append(g.Roads, impl.Road{From: code % 3, To: code / 3 % 3, Way: 1, Time: 1 + code/9%2, Length: code % 18})
				code /= 18
			}
			checkAllPaths(t, g, pathsFrom)
		}
	}
}

func power(base int64, exponent int) int64 {
	n := int64(1)
	for range exponent {
		n *= base
	}
	return n
}

func TestPathsGrowOnGreaterGraphs(t *testing.T) {
	tell := numbers(121)
	long, twice := 0, 0
	for range 1500 {
		places := 1 + tell.Intn(9)
		g := someStreets(tell, places, tell.Intn(4*places))
		for _, p := range grownTo(g, 0) {
			long += count(len(p.Roads) > 3)
			twice += count(comesTwice(g, p))
		}
		checkAllPaths(t, g, grownTo)
		checkFirstRoads(t, g, tell.Int63n(int64(places)))
	}
	if long < 200 || twice < 200 {
		t.Error("too few are long, or come by a place twice:", long, twice)
	}
}

func comesTwice(g impl.Graph, p impl.Path) bool {
	var places []int64
	for _, r := range p.Roads {
		places = append(places, g.Roads[r].To)
	}
	slices.Sort(places)
	return len(slices.Compact(places)) < len(p.Roads)
}

// checkFirstRoads asks whether each Road's time is the least that the times of those behind it allow. As every Road takes time,
// nothing else can be so for all of them.
func checkFirstRoads(t *testing.T, g impl.Graph, e int64) {
	t.Helper()
	behind := map[int64][]int64{}
	for i, r := range g.Roads {
		behind[r.From] = append(behind[r.From], int64(i))
	}
	forbidden := map[impl.Ban]bool{}
	for _, b := range g.Bans {
		forbidden[b] = true
	}
	free := withBans(g)
	times := impl.FirstRoads(g, e)
	if len(times) != len(g.Roads) {
		t.Fatal("FirstRoads gives", len(times), "times for", len(g.Roads), "Roads")
	}
	for i, r := range g.Roads {
		want := int64(-1)
		for _, next := range behind[r.To] {
			if times[next] < 0 || forbidden[ban(int64(i), next)] {
				continue
			}
			if time := r.Time + turnIn(free, int64(i), next) + times[next]; want < 0 || time < want {
				want = time
			}
		}
		if r.To == e {
			want = r.Time
		}
		if times[i] != want {
			t.Fatal("Road", i, "takes", times[i], "and not", want, "to", e, short(g))
		}
	}
}
