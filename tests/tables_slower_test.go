package tests

import (
	"math"
	"slices"
	"testing"

	"loop.example/g00024/impl"
)

// Promise 11, of Within, Slower and Daily: reach and slower roads say what the best paths say.

func TestWithin(t *testing.T) {
	g := crossing(10, 10, 10, 11, 10)
	all := []impl.Arrival{arrival(0, 0), arrival(1, 10), arrival(4, 11), arrival(3, 23), arrival(2, 24)}
	for limit, count := range map[int64]int{
		math.MinInt64: 0, -2: 0, -1: 0, 0: 1, 1: 1, 9: 1, 10: 2, 11: 3, 12: 3, 22: 3, 23: 4, 24: 5, 25: 5, impl.MaxTime: 5, math.MaxInt64: 5,
	} {
		checkWithin(t, "from the west", g, 0, limit, all[:count]...)
	}
	checkWithin(t, "not all can be reached", g, 4, math.MaxInt64, arrival(4, 0), arrival(2, 10))
	checkWithin(t, "none but itself", g, 2, math.MaxInt64, arrival(2, 0))
	checkWithin(t, "a turn forbidden", withBans(g, ban(3, 4)), 0, 25, arrival(0, 0), arrival(1, 10), arrival(4, 11), arrival(3, 23), arrival(2, 25))
	checkWithin(t, "without Roads", manyPlaces(3), 1, 5, arrival(1, 0))
	checkWithin(t, "a Road to itself", loops(2), 0, 5, arrival(0, 0))
}

func TestWithinOfTheSameTime(t *testing.T) {
	g := onOnePoint(6, timed(3, 5, 2), timed(3, 4, 2), timed(3, 0, 2), timed(3, 1, 1), timed(3, 2, 1), timed(2, 3, 1))
	checkWithin(t, "by Spot", g, 3, 2, arrival(3, 0), arrival(1, 1), arrival(2, 1), arrival(0, 2), arrival(4, 2), arrival(5, 2))
	checkWithin(t, "by Spot", g, 3, 1, arrival(3, 0), arrival(1, 1), arrival(2, 1))
	many := hub(40, func(int64) impl.Point { return at(9, 0) }, func(int64) int64 { return 6 })
	want := []impl.Arrival{arrival(0, 0)}
	for i := range int64(40) {
		want = append(want, arrival(i+1, 6))
	}
	checkWithin(t, "forty", many, 0, 6, want...)
	checkWithin(t, "forty", many, 0, 5, want[0])
}

func TestWithinOfPlacesThatCantBe(t *testing.T) {
	g := crossing(10, 10, 10, 11, 10)
	for _, bad := range append(farNumbers(), 5) {
		checkWithin(t, "from a place that can't be", g, bad, 100)
	}
	checkWithin(t, "no places at all", impl.Graph{}, 0, 100)
}

// Within says just what Reach says within the limit.
func TestWithinSaysWhatReachSays(t *testing.T) {
	tell := numbers(131)
	some := 0
	for range 5000 {
		places := 1 + tell.Intn(7)
		g := someStreets(tell, places, tell.Intn(4*places))
		s, limit := tell.Int63n(int64(places)), within(tell, 30)
		got := impl.Within(g, s, limit)
		checkWithin(t, "drawn", g, s, limit, withinOf(g, s, limit)...)
		left := impl.Reach(g, s)
		for _, a := range got {
			if left[a.Spot] != a.Time || a.Time > limit {
				t.Error("Reach does not say", a)
			}
			left[a.Spot] = -1
		}
		if slices.ContainsFunc(left, func(time int64) bool { return time >= 0 && time <= limit }) {
			t.Error("Reach says more:", left)
		}
		some += count(len(got) > 1 && len(got) < places)
		if t.Failed() {
			t.Fatal(g, s, limit)
		}
	}
	if some < 400 {
		t.Error("too few have some within, and some not:", some)
	}
}

func TestSlower(t *testing.T) {
	g := onWays(10, 7, 1000000, 1)
	every := []int64{1, 2, 3}
	for percent, times := range map[int64][]int64{
		1: {1, 1, 10000, 1}, 2: {1, 1, 20000, 1}, 10: {1, 1, 100000, 1}, 11: {2, 1, 110000, 1}, 50: {5, 4, 500000, 1}, 99: {10, 7, 990000, 1},
		100: {10, 7, 1000000, 1}, 101: {11, 8, 1000000, 2}, 200: {20, 14, 1000000, 2}, 250: {25, 18, 1000000, 3}, 9999: {1000, 700, 1000000, 100},
		10000: {1000, 700, 1000000, 100},
	} {
		checkSlower(t, "all ways", g, every, percent, times...)
	}
	for _, percent := range []int64{math.MinInt64, -100, -1, 0, 10001, 10100, math.MaxInt64} {
		checkNoSlower(t, "a percent that can't be", g, every, percent)
		checkNoSlower(t, "a percent that can't be, no ways", g, nil, percent)
	}
}

func TestSlowerOfSomeWays(t *testing.T) {
	g := onWays(10, 7, 30, 1)
	checkSlower(t, "the first way", g, []int64{1}, 300, 30, 7, 30, 1)
	checkSlower(t, "a way of two Roads", g, []int64{2}, 300, 10, 21, 90, 1)
	checkSlower(t, "the last way", g, []int64{3}, 300, 10, 7, 30, 3)
	checkSlower(t, "two ways, in whatever order", g, []int64{3, 1}, 50, 5, 7, 30, 1)
	checkSlower(t, "twice the same way", g, []int64{2, 2, 2}, 300, 10, 21, 90, 1)
	checkSlower(t, "ways that are not there", g, []int64{4, 1000000000}, 300, 10, 7, 30, 1)
	checkSlower(t, "numbers that are no Ids", g, []int64{0, -1, math.MinInt64, 1000000001, math.MaxInt64}, 300, 10, 7, 30, 1)
	checkSlower(t, "one that is there among them", g, []int64{0, 4, 2, -2}, 300, 10, 21, 90, 1)
	checkSlower(t, "no ways", g, nil, 300, 10, 7, 30, 1)
	checkSlower(t, "no ways", g, []int64{}, 300, 10, 7, 30, 1)
	checkSlower(t, "no Roads", manyPlaces(3), []int64{1}, 300)
	checkGraph(t, "no graph", impl.Slower(impl.Graph{}, []int64{1}, 300), impl.Graph{})
}

func TestSlowerIsAtMostMaxTime(t *testing.T) {
	g := onWays(500000, 500001, 333333, 333334)
	checkSlower(t, "twice", g, []int64{1, 2, 3}, 200, 1000000, 1000000, 666666, 666668)
	checkSlower(t, "thrice", g, []int64{1, 2, 3}, 300, 1000000, 1000000, 999999, 1000000)
	g = onWays(10000, 10001, 9999, 1000000)
	checkSlower(t, "a hundred times", g, []int64{1, 2, 3}, 10000, 1000000, 1000000, 999900, 1000000)
	checkSlower(t, "a little more", onWays(990099, 990100, 1, 2), []int64{1, 2, 3}, 101, 1000000, 1000000, 2, 3)
	checkSlower(t, "a little more", onWays(990098, 990097, 1, 2), []int64{1, 2, 3}, 101, 999999, 999998, 2, 3)
}

func TestSlowerOfAsManyWaysAsMayBe(t *testing.T) {
	g := onWays(10, 7, 30, 1)
	var ways []int64
	for i := range int64(1001) {
		ways = append(ways, 1001-i)
	}
	// The way with Id 2 is the last one, behind it stands 1.
	checkSlower(t, "1000 ways", g, ways[:1000], 300, 10, 21, 90, 3)
	checkNoSlower(t, "1001 ways", g, ways, 300)
	checkSlower(t, "one way 1000 times", g, slices.Repeat([]int64{1}, 1000), 300, 30, 7, 30, 1)
	checkNoSlower(t, "one way 1001 times", g, slices.Repeat([]int64{1}, 1001), 300)
	checkNoSlower(t, "none that is there 1001 times", g, make([]int64, 1001), 100)
}

// By hundred percent nothing changes, and slower roads make no way quicker.
func TestSlowerRoadsMakeNoWayQuicker(t *testing.T) {
	tell := numbers(132)
	changed := 0
	for range 5000 {
		places := 1 + tell.Intn(6)
		g := someStreets(tell, places, tell.Intn(4*places))
		ways := []int64{tell.Int63n(4), tell.Int63n(4), tell.Int63n(4)}[:tell.Intn(4)]
		percent := pick(tell, int64(1), 40, 99, 100, 101, 130, 1000, 10000)
		checkGraph(t, "by hundred percent", impl.Slower(g, ways, 100), g)
		slow := impl.Slower(g, ways, percent)
		checkGraph(t, "drawn", slow, slowerOf(g, ways, percent))
		checkGraphOk(t, "drawn", slow, true)
		s := tell.Int63n(int64(places))
		before, after := impl.Reach(g, s), impl.Reach(slow, s)
		for e := range before {
			if (before[e] < 0) != (after[e] < 0) || percent >= 100 && after[e] < before[e] || percent <= 100 && after[e] > before[e] {
				t.Error("at", percent, "percent to", e, "in", after[e], "and not", before[e])
			}
		}
		changed += count(!slices.Equal(before, after))
		if t.Failed() {
			t.Fatal(g, ways, percent, s)
		}
	}
	if changed < 300 {
		t.Error("too few change anything:", changed)
	}
}

func TestDaily(t *testing.T) {
	g := withBans(onWays(10, 7, 30, 1))
	for start, hour := range map[int64]int64{0: 1, 1: 1, 3599: 1, 3600: 2, 3601: 2, 7199: 2, 7200: 3, 43200: 13, 82799: 23, 82800: 24, 86399: 24} {
		checkDaily(t, "one Road", g, hourly(), 0, 1, start, 10*hour, 0)
		checkDaily(t, "all Roads", g, hourly(), 0, 4, start, 48*hour, 0, 1, 2, 3)
		checkDaily(t, "to itself", g, hourly(), 3, 3, start, 0)
	}
	for _, start := range []int64{math.MinInt64, -3600, -1, 86400, 86401, 90000, math.MaxInt64} {
		checkNoDay(t, "a start that can't be", g, hourly(), 0, 1, start)
		checkNoDay(t, "a start that can't be, to itself", g, hourly(), 0, 0, start)
	}
	checkNoDay(t, "against the Roads", g, hourly(), 1, 0, 0)
	checkNoDay(t, "a turn forbidden", onWays(10, 7, 30, 1), hourly(), 0, 4, 0)
	checkNoDay(t, "without Roads", manyPlaces(3), hourly(), 0, 1, 0)
	checkDaily(t, "without Roads, to itself", manyPlaces(3), hourly(), 1, 1, 0, 0)
}

// The Roads take longer, the turns do not: so another way may be the best one.
func TestDailyTakesAnotherWay(t *testing.T) {
	g := crossing(10, 10, 10, 11, 10)
	hours := allDay(100)
	hours[7], hours[8], hours[9] = 300, 10, 1
	checkDaily(t, "at night", g, hours, 0, 2, 0, 24, 3, 4)
	checkDaily(t, "ahead of seven", g, hours, 0, 2, 7*3600-1, 24, 3, 4)
	checkDaily(t, "at seven", g, hours, 0, 2, 7*3600, 65, 0, 1)
	checkDaily(t, "ahead of eight", g, hours, 0, 2, 8*3600-1, 65, 0, 1)
	checkDaily(t, "at eight", g, hours, 0, 2, 8*3600, 6, 3, 4)
	checkDaily(t, "at nine", g, hours, 0, 2, 9*3600, 5, 3, 4)
	checkDaily(t, "at ten", g, hours, 0, 2, 10*3600, 24, 3, 4)
	// Each Road's Time is rounded up, and at most MaxTime.
	checkDaily(t, "rounded up", withBans(onWays(10, 7, 30, 1)), allDay(101), 0, 4, 5, 11+8+31+2, 0, 1, 2, 3)
	checkDaily(t, "at most", withBans(onWays(1000000, 7, 999999, 1)), allDay(200), 0, 4, 5, 1000000+14+1000000+2, 0, 1, 2, 3)
}

func TestDailyOfHoursThatCantBe(t *testing.T) {
	g := onWays(10, 7, 30, 1)
	checkDaily(t, "24 hours", g, allDay(100), 0, 1, 0, 10, 0)
	for _, count := range []int{0, 1, 23, 25, 48} {
		checkNoDay(t, "too few hours, or too many", g, slices.Repeat([]int64{100}, count), 0, 1, 0)
	}
	for hour := range int64(24) {
		for start := range int64(24) {
			hours := allDay(200)
			// Only the hour in which one leaves counts, but all must be percents.
			for _, bad := range []int64{math.MinInt64, -1, 0, 10001, math.MaxInt64} {
				hours[hour] = bad
				checkNoDay(t, "a percent that can't be", g, hours, 0, 1, start*3600)
				checkNoDay(t, "a percent that can't be, to itself", g, hours, 0, 0, start*3600+3599)
			}
			for _, percent := range []int64{100, 1000, 10000} {
				hours[hour] = percent
				if start == hour {
					checkDaily(t, "the hour's percent", g, hours, 0, 1, start*3600, percent/10, 0)
				} else {
					checkDaily(t, "another hour's percent", g, hours, 0, 1, start*3600, 20, 0)
				}
			}
		}
	}
	checkNoDay(t, "two hours' percents that can't be", g, append([]int64{0, 10001}, allDay(100)[:22]...), 0, 1, 3*3600)
	for _, percent := range []int64{1, 99, 100, 101, 10000} {
		checkDaily(t, "a percent that can be", onWays(1000, 1, 1, 1), allDay(percent), 0, 1, 50000, 10*percent, 0)
	}
}

func TestDailyOfPlacesThatCantBe(t *testing.T) {
	g := onWays(10, 7, 30, 1)
	for _, bad := range append(farNumbers(), 5) {
		checkNoDay(t, "from a place that can't be", g, hourly(), bad, 1, 0)
		checkNoDay(t, "to a place that can't be", g, hourly(), 0, bad, 0)
		checkNoDay(t, "places that can't be", g, hourly(), bad, bad, 0)
	}
	checkNoDay(t, "no places at all", impl.Graph{}, hourly(), 0, 0, 0)
}

// Daily counts all Roads, however many ways they are on.
func TestDailyOfMoreWaysThanSlowerTakes(t *testing.T) {
	g := onOnePoint(1201)
	var roads []int64
	for i := range int64(1200) {
		g.Roads = append(g.Roads, impl.Road{From: i, To: i + 1, Way: i + 1, Time: 3, Length: 1})
		roads = append(roads, i)
	}
	checkDaily(t, "1200 ways", g, hourly(), 0, 1200, 3600, 7200, roads...)
}

func TestDailyIsTheBestPathOfTheHour(t *testing.T) {
	tell := numbers(133)
	other := 0
	for range 5000 {
		places := 1 + tell.Intn(6)
		g := someStreets(tell, places, tell.Intn(4*places))
		var hours []int64
		for range 24 {
			hours = append(hours, pick(tell, int64(1), 33, 100, 100, 150, 700, 10000))
		}
		s, e, start := tell.Int63n(int64(places)), tell.Int63n(int64(places)), tell.Int63n(86400)
		want := dailyOf(g, hours, s, e, start)
		got := impl.Daily(g, hours, s, e, start)
		checkPath(t, "drawn", got, want)
		// Slower with all ways is the graph of that hour.
		checkPath(t, "by Slower", got, impl.BestPath(impl.Slower(g, []int64{1, 2, 3}, hours[start/3600]), s, e))
		checkPath(t, "by hundred percent", impl.Daily(g, allDay(100), s, e, start), impl.BestPath(g, s, e))
		other += count(!slices.Equal(got.Roads, impl.BestPath(g, s, e).Roads))
		if t.Failed() {
			t.Fatal(g, hours, s, e, start)
		}
	}
	if other < 30 {
		t.Error("too few take another way:", other)
	}
}
