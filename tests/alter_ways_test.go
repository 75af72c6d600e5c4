package tests

import (
	"math"
	"slices"
	"testing"

	"loop.example/g00024/impl"
)

// Promise 12, of Alternatives: other ways are within what is wished, and best by way of some place.

func TestAlternativesByTime(t *testing.T) {
	g := byMiddles(120, 110, 100, 120, 105)
	checkMiddles(t, "all", g, wish(10, 50, 0), 2, 4, 1, 0, 3)
	checkMiddles(t, "some of them", g, wish(10, 10, 0), 2, 4, 1)
	checkMiddles(t, "the best alone", g, wish(10, 4, 0), 2)
	for most := range int64(10) {
		checkMiddles(t, "the first ones", g, wish(most+1, 50, 0), []int64{2, 4, 1, 0, 3}[:min(most+1, 5)]...)
	}
	checkMiddles(t, "all alike", byMiddles(7, 7, 7, 7), wish(3, 0, 0), 0, 1, 2)
	many := byMiddles(slices.Repeat([]int64{9, 8}, 8)...)
	checkMiddles(t, "ten of sixteen", many, wish(10, 100, 0), 1, 3, 5, 7, 9, 11, 13, 15, 0, 2)
	checkMiddles(t, "one of sixteen", many, wish(1, 1000, 100), 1)
	checkMiddles(t, "nine of sixteen", many, wish(9, 100, 100), 1, 3, 5, 7, 9, 11, 13, 15, 0)
}

func TestAlternativesTakeAtMostWhatIsAllowed(t *testing.T) {
	g := byMiddles(100, 150, 151, 1100, 1101)
	checkMiddles(t, "0 percent", g, wish(10, 0, 100), 0)
	checkMiddles(t, "49 percent", g, wish(10, 49, 100), 0)
	checkMiddles(t, "50 percent", g, wish(10, 50, 100), 0, 1)
	checkMiddles(t, "51 percent", g, wish(10, 51, 100), 0, 1, 2)
	checkMiddles(t, "999 percent", g, wish(10, 999, 100), 0, 1, 2)
	checkMiddles(t, "1000 percent", g, wish(10, 1000, 100), 0, 1, 2, 3)
	checkMiddles(t, "0 percent, as long as the best", byMiddles(100, 101, 100), wish(10, 0, 0), 0, 2)
	// Rounded down: 148.5, and 2.99.
	checkMiddles(t, "50 percent of 99", byMiddles(99, 149, 148), wish(10, 50, 0), 0, 2)
	checkMiddles(t, "49 percent of 2", byMiddles(2, 3), wish(10, 49, 0), 0)
	checkMiddles(t, "50 percent of 2", byMiddles(2, 3), wish(10, 50, 0), 0, 1)
	// Great times: five Roads of a million.
	far := onOnePoint(4, timed(0, 2, 1000000), timed(2, 3, 1000000), timed(3, 1, 1000000), timed(0, 3, 1000000), timed(0, 1, 1000000))
	checkOthers(t, "great times", far, 0, 1, wish(10, 200, 0), []int64{4}, []int64{3, 2})
	checkOthers(t, "great times, all in common", far, 0, 1, wish(10, 200, 100), []int64{4}, []int64{3, 2}, []int64{0, 1, 2})
	checkOthers(t, "great times, a little less", far, 0, 1, wish(10, 199, 100), []int64{4}, []int64{3, 2})
}

// What turning costs counts in the Times.
func TestAlternativesWithTurns(t *testing.T) {
	g := crossing(100, 100, 100, 101, 100)
	checkOthers(t, "to the north", g, 0, 2, wish(2, 1, 0), []int64{3, 4}, []int64{0, 1})
	checkOthers(t, "to the north, no longer", g, 0, 2, wish(2, 0, 0), []int64{3, 4})
	checkOthers(t, "to the south there is one way", g, 0, 3, wish(10, 1000, 100), []int64{0, 2})
	checkOthers(t, "a turn is forbidden", withBans(g, ban(0, 1)), 0, 2, wish(2, 1, 0), []int64{3, 4})
	checkOthers(t, "the other turn is forbidden", withBans(g, ban(3, 4)), 0, 2, wish(2, 1, 0), []int64{0, 1})
	checkOthers(t, "both are forbidden", withBans(g, ban(0, 1), ban(3, 4)), 0, 2, wish(2, 1, 0))
	// 200 and a turn of 5 or 3: 205 is within 0.98 percent of 203, which are 1.98.
	checkOthers(t, "by as much as a turn", crossing(100, 100, 100, 100, 100), 0, 2, wish(2, 1, 0), []int64{3, 4}, []int64{0, 1})
	checkOthers(t, "by less than a turn", crossing(100, 101, 100, 100, 100), 0, 2, wish(2, 1, 0), []int64{3, 4})
}

// forked has two ways from 0 to 1 that begin with the same Road 0: it takes first, then 1 takes second, or 2 and 3 take longer.
func forked(first int64, second int64, longer int64) impl.Graph {
	return onOnePoint(4, timed(0, 2, first), timed(2, 1, second), timed(2, 3, 1), timed(3, 1, longer-1))
}

func TestAlternativesShareAtMostWhatIsAllowed(t *testing.T) {
	best, other := []int64{0, 1}, []int64{0, 2, 3}
	checkOthers(t, "60 of 100 by 60 percent", forked(60, 40, 60), 0, 1, wish(10, 1000, 60), best, other)
	checkOthers(t, "60 of 100 by 59 percent", forked(60, 40, 60), 0, 1, wish(10, 1000, 59), best)
	checkOthers(t, "60 of 100 by nothing", forked(60, 40, 60), 0, 1, wish(10, 1000, 0), best)
	checkOthers(t, "60 of 100 by hundred percent", forked(60, 40, 60), 0, 1, wish(10, 1000, 100), best, other)
	// Rounded down: 49.5.
	checkOthers(t, "49 of 99 by 50 percent", forked(49, 50, 60), 0, 1, wish(10, 1000, 50), best, other)
	checkOthers(t, "50 of 99 by 50 percent", forked(50, 49, 60), 0, 1, wish(10, 1000, 50), best)
	checkOthers(t, "50 of 99 by 51 percent", forked(50, 49, 60), 0, 1, wish(10, 1000, 51), best, other)
	checkOthers(t, "1 of 100 by 1 percent", forked(1, 99, 100), 0, 1, wish(10, 1000, 1), best, other)
	checkOthers(t, "1 of 100 by nothing", forked(1, 99, 100), 0, 1, wish(10, 1000, 0), best)
	checkOthers(t, "1 of 99 by 1 percent", forked(1, 98, 100), 0, 1, wish(10, 1000, 1), best)
	// The percents are of the best one's time, however long the others take.
	checkOthers(t, "60 of 100 in a long time", forked(60, 40, 900), 0, 1, wish(10, 1000, 59), best)
	// The turn between the two is none of what they share.
	g := crossing(30, 10, 10, 11, 90)
	g.Places = append(g.Places, spotAt(6, 0, 200), spotAt(7, 0, 150))
	g.Roads = append(g.Roads, timed(2, 5, 55), timed(1, 6, 40), timed(6, 5, 30))
	// Both turn to the left in the middle: by 2 in 30, 5, 10 and 55, by 6 in 30, 5, 40 and 30.
	checkOthers(t, "30 of 100 with a turn of 5 by 30 percent", g, 0, 5, wish(10, 50, 30), []int64{0, 1, 5}, []int64{0, 6, 7})
	checkOthers(t, "30 of 100 with a turn of 5 by 29 percent", g, 0, 5, wish(10, 50, 29), []int64{0, 1, 5})
}

// Not the best one alone: each that is told ahead is asked.
func TestAlternativesShareWithAnyToldAhead(t *testing.T) {
	// By 2 in 100; by 3 and 4 in 60 and 50; by 3 and 5 in 60 and 55; by 6 and 5 in 70 and 50.
	g := onOnePoint(7, timed(0, 2, 50), timed(2, 1, 50), timed(0, 3, 60), timed(3, 4, 30), timed(4, 1, 20), timed(3, 5, 5), timed(5, 1, 50), timed(0, 6, 69), timed(6, 5, 1))
	best, second, third, fourth := []int64{0, 1}, []int64{2, 3, 4}, []int64{2, 5, 6}, []int64{7, 8, 6}
	checkOthers(t, "all", g, 0, 1, wish(10, 50, 60), best, second, third, fourth)
	checkOthers(t, "the third has too much of the second", g, 0, 1, wish(10, 50, 59), best, second, fourth)
	checkOthers(t, "one that is not told hinders none", g, 0, 1, wish(10, 50, 0), best, second, fourth)
	checkOthers(t, "the first three", g, 0, 1, wish(3, 50, 60), best, second, third)
	checkOthers(t, "the first three without the third", g, 0, 1, wish(3, 50, 59), best, second, fourth)
	checkOthers(t, "the fourth takes too long", g, 0, 1, wish(10, 19, 60), best, second, third)
	g.Roads[6].Time, g.Roads[5].Time = 51, 4
	checkOthers(t, "the fourth has too much of the third", g, 0, 1, wish(10, 50, 60), best, second, third, fourth)
	g.Roads[6].Time = 61
	checkOthers(t, "the fourth has too much of the third", g, 0, 1, wish(10, 50, 60), best, second, third)
}

func TestAlternativesAreNotTheSame(t *testing.T) {
	// By the ends too the best path is the Via.
	checkMiddles(t, "the best by its own places", byMiddles(100), wish(10, 1000, 100), 0)
	checkOthers(t, "one Road", onOnePoint(2, timed(0, 1, 5)), 0, 1, wish(10, 1000, 100), []int64{0})
	// A way over two places is the Via of both.
	g := onOnePoint(5, timed(0, 2, 50), timed(2, 1, 50), timed(0, 3, 50), timed(3, 4, 25), timed(4, 1, 25))
	checkOthers(t, "the same by two places", g, 0, 1, wish(10, 0, 100), []int64{0, 1}, []int64{2, 3, 4})
	checkOthers(t, "the same by two places", g, 0, 1, wish(10, 1000, 100), []int64{0, 1}, []int64{2, 3, 4})
	// Roads side by side are of no other place.
	checkOthers(t, "side by side", onOnePoint(2, timed(0, 1, 5), timed(0, 1, 5), timed(0, 1, 6)), 0, 1, wish(10, 1000, 100), []int64{0})
}

func TestAlternativesDoNotLoop(t *testing.T) {
	// 3 lies beside the way, 4 ahead of it, 5 behind it.
	g := onOnePoint(6, timed(0, 2, 50), timed(2, 1, 50), timed(2, 3, 1), timed(3, 2, 1), timed(0, 4, 1), timed(4, 0, 1), timed(1, 5, 1), timed(5, 1, 1))
	checkVia(t, "beside the way", g, 0, 3, 1, 122, 0, 2, 3, 1)
	checkVia(t, "ahead of it", g, 0, 4, 1, 122, 4, 5, 0, 1)
	checkVia(t, "behind it", g, 0, 5, 1, 122, 0, 1, 6, 7)
	checkOthers(t, "one way alone", g, 0, 1, wish(10, 1000, 100), []int64{0, 1})
	g.Roads = append(g.Roads, timed(3, 1, 50))
	checkOthers(t, "out of the place beside it", g, 0, 1, wish(10, 1000, 100), []int64{0, 1}, []int64{0, 2, 8})
	// The best one is told even if it comes by a place twice.
	g = impl.Graph{
		Places: []impl.Spot{spotAt(1, -50, 0), spotAt(2, 0, 0), spotAt(3, 0, 50), spotAt(4, 50, 0), spotAt(5, 25, -40)},
		Roads:  []impl.Road{timed(0, 1, 10), timed(1, 2, 10), timed(1, 3, 10), timed(3, 4, 10), timed(4, 1, 10)},
		Bans:   []impl.Ban{ban(0, 1)},
	}
	checkOthers(t, "the best one loops", g, 0, 2, wish(10, 1000, 100), []int64{0, 2, 3, 4, 1})
}

// Behind a best part another one may be the best to go on with: so other ways are found between places of the best one.
func TestAlternativesByAPlaceOfTheBest(t *testing.T) {
	g := impl.Graph{
		Places: []impl.Spot{spotAt(1, -50, 0), spotAt(2, 0, 0), spotAt(3, 0, -50), spotAt(4, 0, 50)},
		Roads:  []impl.Road{timed(0, 1, 10), timed(0, 2, 4), timed(2, 1, 3), timed(1, 3, 1)},
	}
	checkOthers(t, "by the middle", g, 0, 3, wish(10, 50, 10), []int64{1, 2, 3}, []int64{0, 3})
	// 16 against 13, of which one Road is in both.
	checkOthers(t, "by the middle, as long as may be", g, 0, 3, wish(10, 24, 8), []int64{1, 2, 3}, []int64{0, 3})
	checkOthers(t, "by the middle, too long", g, 0, 3, wish(10, 23, 8), []int64{1, 2, 3})
	checkOthers(t, "by the middle, too much in common", g, 0, 3, wish(10, 50, 7), []int64{1, 2, 3})
	checkOthers(t, "by the middle, forbidden", withBans(g, ban(0, 3)), 0, 3, wish(10, 50, 10), []int64{1, 2, 3})
}

func TestAlternativesToItself(t *testing.T) {
	for _, g := range []impl.Graph{crossroads(), loops(3), manyPlaces(4), star(), byMiddles(3, 4)} {
		for s := range int64(len(g.Places)) {
			checkOthers(t, "to itself", g, s, s, wish(10, 1000, 100), nil)
			checkOthers(t, "to itself", g, s, s, wish(1, 0, 0), nil)
		}
	}
}

func TestAlternativesWhereThereIsNothing(t *testing.T) {
	g := byMiddles(100, 120)
	checkOthers(t, "no way", g, 1, 0, wish(10, 1000, 100))
	checkOthers(t, "no way between the middles", g, 2, 3, wish(10, 1000, 100))
	checkOthers(t, "no Roads", manyPlaces(3), 0, 2, wish(10, 1000, 100))
	for _, bad := range append(farNumbers(), 4) {
		checkOthers(t, "from a place that can't be", g, bad, 1, wish(10, 1000, 100))
		checkOthers(t, "to a place that can't be", g, 0, bad, wish(10, 1000, 100))
		checkOthers(t, "places that can't be", g, bad, bad, wish(10, 1000, 100))
	}
	checkOthers(t, "no places at all", impl.Graph{}, 0, 0, wish(10, 1000, 100))
	for _, far := range []int64{math.MinInt64, math.MaxInt64} {
		checkOthers(t, "a Most that can't be", g, 0, 1, wish(far, 1000, 100))
		checkOthers(t, "a Longer that can't be", g, 0, 1, wish(10, far, 100))
		checkOthers(t, "a Shared that can't be", g, 0, 1, wish(10, 1000, far))
	}
	for _, w := range []impl.Wish{{}, wish(0, 50, 50), wish(-1, 50, 50), wish(11, 50, 50), wish(3, -1, 50), wish(3, 1001, 50), wish(3, 50, -1), wish(3, 50, 101)} {
		checkOthers(t, "a Wish that can't be", g, 0, 1, w)
		checkOthers(t, "a Wish that can't be, to itself", g, 0, 0, w)
	}
	for _, w := range []impl.Wish{wish(1, 0, 0), wish(10, 0, 0), wish(1, 1000, 0), wish(1, 0, 100)} {
		checkMiddles(t, "a Wish that can be", g, w, 0)
	}
	for _, bad := range badGraphs() {
		checkOthers(t, bad.name, bad.graph, 0, 0, wish(10, 1000, 100))
		checkOthers(t, bad.name, bad.graph, 0, 1, wish(10, 1000, 100))
	}
}

// On small graphs, drawn: what is told is what the words say, within what is wished, and each other one the Via of some place.
func TestAlternativesAreWithinWhatIsWished(t *testing.T) {
	tell := numbers(141)
	several, cut := map[int]int{}, 0
	for range 6000 {
		places := int64(2 + tell.Intn(7))
		g := someStreets(tell, int(places), tell.Intn(5*int(places)))
		s, e, w := tell.Int63n(places), tell.Int63n(places), someWish(tell)
		told := impl.Alternatives(g, s, e, w)
		checkPaths(t, "drawn", told, alternativesOf(g, s, e, w))
		checkWished(t, g, s, e, w, told)
		for _, p := range told[min(1, len(told)):] {
			if !isVia(g, s, e, p, manyNumbers(places)) {
				t.Error("of no place is this the Via:", p)
			}
		}
		several[min(len(told), 3)]++
		cut += count(int64(len(told)) == w.Most && len(impl.Alternatives(g, s, e, wish(10, w.Longer, w.Shared))) > len(told))
		if t.Failed() {
			t.Fatal(g, s, e, w)
		}
	}
	if several[0] < 500 || several[2] < 300 || several[3] < 50 || cut < 50 {
		t.Error("too few of a kind:", several, cut)
	}
}

// manyNumbers are so many from 0 on.
func manyNumbers(count int64) []int64 {
	var list []int64
	for i := range count {
		list = append(list, i)
	}
	return list
}
