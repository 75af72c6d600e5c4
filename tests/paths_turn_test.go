package tests

import (
	"math"
	"testing"

	"loop.example/g00024/impl"
)

// Promise 10, of TurnTime and PathTime: what turning costs, and what a path takes.

func TestTurnTimeByWinds(t *testing.T) {
	g := star()
	want := []int64{0, 0, 5, 5, 5, 3, 3, 0}
	for from := range int64(8) {
		for left, time := range want {
			// Road from comes from that side, so that it leads into the wind on the other.
			to := (from + 4 + int64(left)) % 8
			if left != 4 {
				checkTurnTime(t, "winds", g, from, 8+to, time)
			} else {
				checkTurnTime(t, "back", g, from, 8+to, 20)
			}
		}
	}
	// Another place may lie in the same wind as the one that one came from.
	for _, p := range winds() {
		there := impl.Graph{
			Places: []impl.Spot{{Id: 1}, {Id: 2, Point: p}, {Id: 3, Point: at(2*p.X, 2*p.Y)}},
			Roads:  []impl.Road{road(1, 0, 1), road(0, 2, 1), road(2, 0, 1), road(0, 1, 1)},
		}
		checkTurnTime(t, "nearly back", there, 0, 1, 5)
		checkTurnTime(t, "nearly back", there, 2, 3, 5)
		checkTurnTime(t, "back", there, 0, 3, 20)
		checkTurnTime(t, "back from farther away", there, 1, 2, 20)
	}
}

// The winds are those of Heading: 5 times the less against 2 times the greater.
func TestTurnTimeByHeadings(t *testing.T) {
	g := impl.Graph{
		Places: []impl.Spot{spotAt(1, -50, 0), spotAt(2, 0, 0), spotAt(3, 40, 15), spotAt(4, 40, 16), spotAt(5, 16, 40), spotAt(6, 15, 40), spotAt(7, 16, -40), spotAt(8, 15, -40)},
	}
	for to := range int64(8) {
		g.Roads = append(g.Roads, road(0, 1, 1), road(1, to, 1))
	}
	for to, want := range []int64{20, 0, 0, 0, 0, 5, 0, 3} {
		checkTurnTime(t, "by Headings", g, 0, int64(2*to+1), want)
	}
}

func TestTurnTimeBack(t *testing.T) {
	g := impl.Graph{Places: manyPlaces(3).Places, Roads: []impl.Road{road(0, 1, 1), road(1, 0, 1), road(1, 0, 2), road(1, 2, 1), road(2, 0, 1)}}
	checkTurnTime(t, "on the same way", g, 0, 1, 20)
	checkTurnTime(t, "on another way", g, 0, 2, 20)
	checkTurnTime(t, "there again", g, 1, 0, 20)
	checkTurnTime(t, "there again on another way", g, 2, 0, 20)
	checkTurnTime(t, "straight on", g, 0, 3, 0)
	checkTurnTime(t, "round about", g, 3, 4, 5)
	g.Places[1].Point = g.Places[0].Point
	checkTurnTime(t, "without a Heading", g, 0, 1, 20)
	checkTurnTime(t, "without a Heading, on another way", g, 0, 2, 20)
}

func TestTurnTimeWithoutHeadings(t *testing.T) {
	// Places 1, 2 and 3 have the same point, 4 lies north of it.
	g := impl.Graph{
		Places: []impl.Spot{spotAt(1, -9, 0), spotAt(2, 0, 0), spotAt(3, 0, 0), spotAt(4, 0, 0), spotAt(5, 0, 9)},
		Roads:  []impl.Road{road(0, 1, 1), road(1, 2, 1), road(2, 4, 1), road(2, 3, 1), road(1, 4, 1), road(1, 1, 1), road(1, 0, 1), road(1, 1, 2)},
	}
	checkTurnTime(t, "both have one", g, 0, 4, 5)
	checkTurnTime(t, "the second has none", g, 0, 1, 0)
	checkTurnTime(t, "the first has none", g, 1, 2, 0)
	checkTurnTime(t, "both have none", g, 1, 3, 0)
	checkTurnTime(t, "into a Road to itself", g, 0, 5, 0)
	checkTurnTime(t, "out of a Road to itself", g, 5, 4, 0)
	checkTurnTime(t, "out of a Road to itself, to where one came from", g, 5, 6, 0)
	checkTurnTime(t, "from a Road to itself into the same", g, 5, 5, 20)
	checkTurnTime(t, "from a Road to itself into another one", g, 5, 7, 20)
	checkTurnTime(t, "from a Road to itself into one without a Heading", g, 5, 1, 0)
}

func TestTurnTimeOfNoTurn(t *testing.T) {
	g := withBans(crossroads(), ban(0, 2), ban(4, 5))
	checkTurnTime(t, "forbidden", g, 0, 2, -1)
	checkTurnTime(t, "forbidden back", g, 4, 5, -1)
	checkTurnTime(t, "not forbidden", g, 0, 4, 5)
	checkTurnTime(t, "not forbidden from another", g, 3, 4, 3)
	checkTurnTime(t, "not forbidden back", g, 0, 1, 20)
	checkTurnTime(t, "the last Road", g, 5, 2, 5)
	for from, a := range g.Roads {
		for to, b := range g.Roads {
			if a.To != b.From {
				checkTurnTime(t, "they do not meet", g, int64(from), int64(to), -1)
			}
		}
	}
	for _, n := range []int64{math.MinInt64, -6, -1, 6, 7, math.MaxInt64} {
		for to := range int64(6) {
			checkTurnTime(t, "from a Road that can't be", g, n, to, -1)
			checkTurnTime(t, "to a Road that can't be", g, to, n, -1)
		}
		checkTurnTime(t, "Roads that can't be", g, n, n, -1)
	}
	checkTurnTime(t, "no Roads", manyPlaces(3), 0, 0, -1)
	checkTurnTime(t, "nothing at all", impl.Graph{}, 0, 0, -1)
	for _, bad := range badGraphs() {
		for _, turn := range []impl.Ban{ban(0, 0), ban(0, 1), ban(0, 4), ban(3, 4)} {
			checkTurnTime(t, bad.name, bad.graph, turn.From, turn.To, -1)
		}
	}
}

func TestTurnTimesAgainstTheWords(t *testing.T) {
	tell := numbers(118)
	told := map[int64]int{}
	for range 1500 {
		g := pick(tell, someGraph, leafy)(tell)
		if tell.Intn(2) == 0 {
			g = someStreets(tell, 1+tell.Intn(6), tell.Intn(20))
		}
		for from := int64(-1); from <= int64(len(g.Roads)); from++ {
			for to := int64(-1); to <= int64(len(g.Roads)); to++ {
				want := turnTimeOf(g, from, to)
				told[want]++
				checkTurnTime(t, "some", g, from, to, want)
			}
		}
	}
	for _, time := range []int64{-1, 0, 3, 5, 20} {
		if told[time] < 1000 {
			t.Error("too few of a kind:", told)
		}
	}
}

func TestPathTime(t *testing.T) {
	g := withBans(crossroads(), ban(0, 2))
	for i := range g.Roads {
		g.Roads[i].Time = 100 * int64(i+1)
	}
	for s := range int64(4) {
		for e := range int64(4) {
			checkPathTime(t, "no Roads", g, nil, s, e, int64(count(s == e))-1)
			checkPathTime(t, "no Roads", g, []int64{}, s, e, int64(count(s == e))-1)
		}
	}
	checkPathTime(t, "one", g, []int64{0}, 3, 0, 100)
	checkPathTime(t, "the last one", g, []int64{5}, 2, 0, 600)
	checkPathTime(t, "two, to the left", g, []int64{0, 4}, 3, 2, 605)
	checkPathTime(t, "two, to the right", g, []int64{3, 4}, 1, 2, 903)
	checkPathTime(t, "two, straight on", g, []int64{3, 1}, 1, 3, 600)
	checkPathTime(t, "back", g, []int64{3, 2}, 1, 1, 720)
	checkPathTime(t, "several", g, []int64{0, 4, 5, 2}, 3, 1, 100+5+500+20+600+5+300)
	checkPathTime(t, "a Road twice", g, []int64{4, 5, 4}, 0, 2, 500+20+600+20+500)
	checkPathTime(t, "a Road three times", g, []int64{1, 0, 1, 0, 1}, 0, 3, 200+20+100+20+200+20+100+20+200)
	checkPathTime(t, "from a place to itself", g, []int64{4, 5}, 0, 0, 1120)
	checkPathTime(t, "a Road that follows itself", loops(2), []int64{0, 0, 1, 1}, 0, 0, 4+60)
}

func TestPathTimeOfNoPath(t *testing.T) {
	g := withBans(crossroads(), ban(0, 2))
	for _, list := range [][]int64{{0}, {0, 4}, {0, 4, 5}, {0, 4, 5, 1, 0}} {
		end := g.Roads[list[len(list)-1]].To
		for s := int64(-1); s <= 4; s++ {
			for e := int64(-1); e <= 4; e++ {
				if s != 3 || e != end {
					checkPathTime(t, "from there or to there it is none", g, list, s, e, -1)
				}
			}
		}
	}
	checkPathTime(t, "it does not go on", g, []int64{0, 5}, 3, 0, -1)
	checkPathTime(t, "it does not go on", g, []int64{0, 3}, 3, 0, -1)
	checkPathTime(t, "it does not go on at the end", g, []int64{0, 4, 4}, 3, 2, -1)
	checkPathTime(t, "the other way round", g, []int64{4, 0}, 3, 2, -1)
	checkPathTime(t, "forbidden", g, []int64{0, 2}, 3, 1, -1)
	checkPathTime(t, "forbidden at the end", g, []int64{1, 0, 2}, 0, 1, -1)
	checkPathTime(t, "forbidden at the beginning", g, []int64{0, 2, 3}, 3, 0, -1)
	for _, n := range []int64{math.MinInt64, -6, -1, 6, 7, math.MaxInt64} {
		for _, list := range [][]int64{{n}, {n, 4}, {0, n}, {0, n, 4}, {0, 4, n}} {
			checkPathTime(t, "a Road that can't be", g, list, 3, 2, -1)
			checkPathTime(t, "a Road that can't be", g, list, 3, 0, -1)
		}
	}
	for _, n := range []int64{math.MinInt64, -4, -1, 4, 5, math.MaxInt64} {
		checkPathTime(t, "from a place that can't be", g, []int64{0, 4}, n, 2, -1)
		checkPathTime(t, "to a place that can't be", g, []int64{0, 4}, 3, n, -1)
		checkPathTime(t, "from and to a place that can't be", g, nil, n, n, -1)
	}
	checkPathTime(t, "nothing at all", impl.Graph{}, nil, 0, 0, -1)
	checkPathTime(t, "no Roads", manyPlaces(2), []int64{0}, 0, 0, -1)
	for _, bad := range badGraphs() {
		checkPathTime(t, bad.name, bad.graph, nil, 0, 0, -1)
		checkPathTime(t, bad.name, bad.graph, []int64{3}, 1, 0, -1)
		checkPathTime(t, bad.name, bad.graph, []int64{3, 4}, 1, 2, -1)
	}
}

// A path may be longer than a graph has Roads.
func TestPathTimeOfAGreatPath(t *testing.T) {
	g := loops(2)
	g.Roads[0].Time, g.Roads[1].Time = impl.MaxTime, impl.MaxTime
	list := make([]int64, 1<<20)
	for i := range list {
		list[i] = int64(i % 2)
	}
	checkPathTime(t, "far more Roads than there are", g, list, 0, 0, 1<<20*1000000+(1<<20-1)*20)
	list[1<<20-1] = 2
	checkPathTime(t, "the last one can't be", g, list, 0, 0, -1)
}

func TestPathTimesAgainstTheWords(t *testing.T) {
	tell := numbers(119)
	found := 0
	for range 40000 {
		g := someStreets(tell, 1+tell.Intn(3), 1+tell.Intn(6))
		list := make([]int64, tell.Intn(5))
		place := tell.Int63n(int64(len(g.Places)))
		s := place
		for i := range list {
			list[i] = tell.Int63n(int64(len(g.Roads)))
			for try := 0; try < 10 && g.Roads[list[i]].From != place; try++ {
				list[i] = tell.Int63n(int64(len(g.Roads)))
			}
			place = g.Roads[list[i]].To
		}
		if tell.Intn(8) == 0 {
			place = within(tell, 4)
		}
		want := pathTimeOf(g, list, s, place)
		found += count(want >= 0 && len(list) > 1)
		checkPathTime(t, "some", g, list, s, place, want)
	}
	if found < 5000 {
		t.Error("too few are paths:", found)
	}
}
