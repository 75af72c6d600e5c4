package tests

import (
	"slices"
	"testing"

	"loop.example/g00024/impl"
)

// Promise 11, of Times and Center: tables say what the best paths say.

func TestTimes(t *testing.T) {
	g := crossing(10, 10, 10, 11, 10)
	checkTimes(t, "some to some", g, []int64{0, 1, 4}, []int64{2, 3, 0, 4}, []int64{24, 23, 0, 11}, []int64{10, 10, -1, -1}, []int64{10, -1, -1, 0})
	checkTimes(t, "one to one", g, []int64{0}, []int64{2}, []int64{24})
	checkTimes(t, "one to all", g, []int64{0}, []int64{4, 3, 2, 1, 0}, []int64{11, 23, 24, 10, 0})
	checkTimes(t, "all to one", g, []int64{4, 3, 2, 1, 0}, []int64{2}, []int64{10}, []int64{-1}, []int64{0}, []int64{10}, []int64{24})
	checkTimes(t, "a turn forbidden", withBans(g, ban(3, 4)), []int64{0, 4}, []int64{2, 4}, []int64{25, 11}, []int64{10, 0})
	checkTimes(t, "both turns forbidden", withBans(g, ban(0, 1), ban(3, 4)), []int64{0, 4}, []int64{2, 4}, []int64{-1, 11}, []int64{10, 0})
}

func TestTimesOfNoPlaces(t *testing.T) {
	g := crossing(10, 10, 10, 11, 10)
	for _, none := range [][]int64{nil, {}} {
		checkTimes(t, "from none", g, none, []int64{0, 1})
		checkTimes(t, "to none", g, []int64{0, 1, 1}, none, nil, nil, nil)
		checkTimes(t, "none at all", g, none, nil)
		checkTimes(t, "none of no graph", impl.Graph{}, none, none)
		checkTimes(t, "from none, to one that can't be", g, none, []int64{5})
		checkTimes(t, "to none, from one that can't be", g, []int64{0, 5}, none)
	}
}

func TestTimesOfAPlaceTwice(t *testing.T) {
	g := crossing(10, 10, 10, 11, 10)
	checkTimes(t, "from a place twice", g, []int64{0, 1, 0}, []int64{1, 3}, []int64{10, 23}, []int64{0, 10}, []int64{10, 23})
	checkTimes(t, "to a place twice", g, []int64{0, 1}, []int64{3, 3, 1, 3}, []int64{23, 23, 10, 23}, []int64{10, 10, 0, 10})
	checkTimes(t, "both", g, []int64{1, 1}, []int64{1, 1}, []int64{0, 0}, []int64{0, 0})
}

// From a place to itself nothing is driven, not even a Road that leads from there to there.
func TestTimesToItself(t *testing.T) {
	for _, g := range []impl.Graph{crossroads(), loops(3), manyPlaces(4), star(), lane(9, 4)} {
		for s := range int64(len(g.Places)) {
			checkTimes(t, "to itself", g, []int64{s}, []int64{s}, []int64{0})
		}
	}
	checkTimes(t, "without Roads", manyPlaces(3), []int64{0, 1, 2}, []int64{0, 1, 2}, []int64{0, -1, -1}, []int64{-1, 0, -1}, []int64{-1, -1, 0})
}

func TestTimesOfPlacesThatCantBe(t *testing.T) {
	g := crossing(10, 10, 10, 11, 10)
	checkTimes(t, "the last place", g, []int64{4}, []int64{4}, []int64{0})
	for _, bad := range append(farNumbers(), 5) {
		for i := range 3 {
			list := []int64{0, 1, 4}
			list[i] = bad
			checkTimes(t, "from one that can't be", g, list, []int64{0, 4})
			checkTimes(t, "to one that can't be", g, []int64{0, 4}, list)
			checkTimes(t, "from and to one that can't be", g, list, list)
		}
	}
	checkTimes(t, "no places at all", impl.Graph{}, []int64{0}, []int64{0})
}

func TestTimesOfAsManyAsMayBe(t *testing.T) {
	g := lane(130, 2)
	var first, times []int64
	for i := range int64(101) {
		first, times = append(first, i), append(times, 2*i)
	}
	checkTimes(t, "to 100", g, []int64{0}, first[:100], times[:100])
	checkTimes(t, "to 101", g, []int64{0}, first)
	checkTimes(t, "from 101", g, first, []int64{0})
	checkTimes(t, "from 101 to none", g, first, nil)
	checkTimes(t, "from none to 101", g, nil, first)
	checkTimes(t, "from a place 101 times", g, make([]int64, 101), []int64{0})
	table := impl.Times(g, first[:100], first[1:])
	if len(table) != 100 {
		t.Fatal("a table of", len(table), "rows")
	}
	for i, row := range table {
		var want []int64
		for k := range int64(100) {
			want = append(want, 2*max(k+1-int64(i), int64(i)-k-1))
		}
		checkNumbers(t, "100 by 100", row, want...)
	}
}

func TestTablesOfGraphsThatCantBe(t *testing.T) {
	for _, bad := range badGraphs() {
		checkTimes(t, bad.name, bad.graph, []int64{0}, []int64{0})
		checkTimes(t, bad.name, bad.graph, nil, nil)
		checkTimes(t, bad.name, bad.graph, []int64{0}, nil)
		checkWithin(t, bad.name, bad.graph, 0, 100)
		checkNoSlower(t, bad.name, bad.graph, []int64{5}, 100)
		checkNoSlower(t, bad.name, bad.graph, nil, 100)
		checkNoDay(t, bad.name, bad.graph, allDay(100), 0, 0, 0)
		checkCenter(t, bad.name, bad.graph, []int64{0}, -1)
		checkCenter(t, bad.name, bad.graph, nil, -1)
	}
}

func TestCenter(t *testing.T) {
	// From 0 to 4 along a lane that takes 1, 2, 3 and 4.
	g := onOnePoint(5)
	for i := range int64(4) {
		g.Roads = append(g.Roads, timed(i, i+1, i+1), timed(i+1, i, i+1))
	}
	checkCenter(t, "of all", g, []int64{0, 1, 2, 3, 4}, 2)
	checkCenter(t, "of all, turned round", g, []int64{4, 3, 2, 1, 0}, 2)
	checkCenter(t, "of three", g, []int64{0, 4, 3}, 3)
	checkCenter(t, "of one", g, []int64{3}, 3)
	checkCenter(t, "of the first", g, []int64{0}, 0)
	checkCenter(t, "of the last", g, []int64{4}, 4)
	checkCenter(t, "of one twice", g, []int64{3, 3}, 3)
	for _, none := range [][]int64{nil, {}} {
		checkCenter(t, "of none", g, none, -1)
		checkCenter(t, "of none in no graph", impl.Graph{}, none, -1)
	}
}

func TestCenterOfSeveralAsGood(t *testing.T) {
	g := lane(5, 3)
	checkCenter(t, "of two", g, []int64{1, 3}, 1)
	checkCenter(t, "of two, turned round", g, []int64{3, 1}, 3)
	checkCenter(t, "of four", g, []int64{0, 1, 2, 3}, 1)
	checkCenter(t, "of four, the second middle ahead", g, []int64{0, 2, 1, 3}, 2)
	checkCenter(t, "of four, the edges ahead", g, []int64{3, 0, 2, 1}, 2)
}

// A place that stands there twice counts as often, as one of the list's places and in the sums.
func TestCenterOfAPlaceTwice(t *testing.T) {
	g := lane(5, 3)
	checkCenter(t, "the other one twice", g, []int64{1, 3, 3}, 3)
	checkCenter(t, "the first twice", g, []int64{3, 1, 1}, 1)
	checkCenter(t, "both twice", g, []int64{3, 1, 1, 3}, 3)
	checkCenter(t, "an edge thrice", g, []int64{1, 2, 4, 4, 4}, 4)
}

func TestCenterIsFromWhereAllAreReached(t *testing.T) {
	// One way from 0 by 1 to 2.
	g := onOnePoint(4, timed(0, 1, 9), timed(1, 2, 9))
	checkCenter(t, "the first alone reaches all", g, []int64{2, 1, 0}, 0)
	checkCenter(t, "without the first", g, []int64{2, 1}, 1)
	checkCenter(t, "none reaches all", g, []int64{0, 1, 2, 3}, -1)
	checkCenter(t, "none reaches both", g, []int64{3, 0}, -1)
	checkCenter(t, "a forbidden turn", withBans(g, ban(0, 1)), []int64{2, 1, 0}, -1)
	// Back from 2 in a long time: now all reach all, but the first still does it in the least.
	g.Roads = append(g.Roads, timed(2, 0, 100))
	checkCenter(t, "round", g, []int64{2, 1, 0}, 0)
	// Where one can't reach all, what could be reached would be less.
	g = onOnePoint(4, timed(0, 1, 9), timed(0, 2, 9), timed(0, 3, 9), timed(1, 2, 1))
	checkCenter(t, "the dearest", g, []int64{1, 3, 2, 0}, 0)
}

func TestCenterOfWhatCantBe(t *testing.T) {
	g := lane(130, 2)
	var first []int64
	for i := range int64(101) {
		first = append(first, i)
	}
	checkCenter(t, "of 100", g, first[:100], 49)
	checkCenter(t, "of 101", g, first, -1)
	checkCenter(t, "of one 101 times", g, make([]int64, 101), -1)
	for _, bad := range append(farNumbers(), 130) {
		for i := range 3 {
			list := []int64{0, 1, 129}
			list[i] = bad
			checkCenter(t, "one can't be", g, list, -1)
		}
		checkCenter(t, "one alone, which can't be", g, []int64{bad}, -1)
	}
	checkCenter(t, "no places at all", impl.Graph{}, []int64{0}, -1)
}

// On small graphs, drawn: a table's Times are those of the BestPaths, and the Center is as good as any.
func TestTablesSayWhatTheBestPathsSay(t *testing.T) {
	tell := numbers(130)
	centers, none := 0, 0
	for range 4000 {
		places := int64(1 + tell.Intn(6))
		g := someStreets(tell, int(places), tell.Intn(3*int(places)))
		var from, to []int64
		for range tell.Intn(5) {
			from, to = append(from, tell.Int63n(places)), append(to, tell.Int63n(places))
		}
		to = append(to, from...)
		table := impl.Times(g, from, to)
		checkTable(t, "drawn", table, timesOf(g, from, to)...)
		for i, s := range from {
			for k, e := range to {
				if time := timeIn(impl.BestPath(g, s, e)); table[i][k] != time {
					t.Error("from", s, "to", e, "in", table[i][k], "and not", time)
				}
			}
		}
		center := impl.Center(g, from)
		checkCenter(t, "drawn", g, from, centerOf(g, from))
		checkNoBetterCenter(t, g, from, center)
		centers, none = centers+count(center >= 0), none+count(center < 0 && len(from) > 0)
		if t.Failed() {
			t.Fatal(g, from, to)
		}
	}
	if centers < 300 || none < 300 {
		t.Error("too few of a kind:", centers, none)
	}
}

func checkNoBetterCenter(t *testing.T, g impl.Graph, among []int64, center int64) {
	t.Helper()
	if center >= 0 && !slices.Contains(among, center) {
		t.Error(center, "is none of", among)
	}
	least, reached := sumTo(g, center, among)
	for _, s := range among {
		if sum, ok := sumTo(g, s, among); ok && (!reached || sum < least) {
			t.Error(s, "is a better center than", center, "by", sum, "against", least)
		}
	}
}

// sumTo is false where one can't be reached.
func sumTo(g impl.Graph, s int64, among []int64) (int64, bool) {
	sum := int64(0)
	for _, e := range among {
		p := impl.BestPath(g, s, e)
		if !p.Found {
			return 0, false
		}
		sum += p.Time
	}
	return sum, true
}
