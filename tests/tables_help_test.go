package tests

import (
	"math"
	"slices"
	"testing"

	"loop.example/g00024/impl"
)

// farNumbers are no numbers of places or Roads, whatever graph it is.
func farNumbers() []int64 { return []int64{math.MinInt64, -2, -1, 8000, math.MaxInt64} }

// allDay are 24 hours of the same percent.
func allDay(percent int64) []int64 { return slices.Repeat([]int64{percent}, 24) }

// hourly are 24 hours of 100, 200 and so on percent.
func hourly() []int64 {
	var hours []int64
	for i := range int64(24) {
		hours = append(hours, 100*(i+1))
	}
	return hours
}

func arrival(place int64, time int64) impl.Arrival { return impl.Arrival{Spot: place, Time: time} }

// withTimes is the same graph with other Times.
func withTimes(g impl.Graph, times ...int64) impl.Graph {
	g = same(g)
	for i, time := range times {
		g.Roads[i].Time = time
	}
	return g
}

// onWays is a graph with one Road after the other on ways 1, 2, 2 and 3, which have names, and a turn that is forbidden.
func onWays(times ...int64) impl.Graph {
	g := onOnePoint(5, timed(0, 1, 1), timed(1, 2, 1), timed(2, 3, 1), timed(3, 4, 1))
	for i, way := range []int64{1, 2, 2, 3} {
		g.Roads[i].Way, g.Roads[i].Name = way, []string{"A", "", "\xff\n", "B"}[i]
	}
	return withBans(withTimes(g, times...), ban(1, 2))
}

func checkTable(t *testing.T, name string, got [][]int64, want ...[]int64) {
	t.Helper()
	if !slices.EqualFunc(got, want, slices.Equal[[]int64]) {
		t.Error(name, "gives", short(got), "and not", short(want))
	}
}

func checkTimes(t *testing.T, name string, g impl.Graph, from []int64, to []int64, want ...[]int64) {
	t.Helper()
	checkTable(t, name, impl.Times(g, from, to), want...)
}

func checkWithin(t *testing.T, name string, g impl.Graph, s int64, limit int64, want ...impl.Arrival) {
	t.Helper()
	if got := impl.Within(g, s, limit); !slices.Equal(got, want) {
		t.Error(name, "within", limit, "gives", short(got), "and not", short(want))
	}
}

// checkSlower wants these Times, and all else as it was.
func checkSlower(t *testing.T, name string, g impl.Graph, ways []int64, percent int64, times ...int64) {
	t.Helper()
	checkGraph(t, name, impl.Slower(g, ways, percent), withTimes(g, times...))
}

func checkNoSlower(t *testing.T, name string, g impl.Graph, ways []int64, percent int64) {
	t.Helper()
	checkGraph(t, name, impl.Slower(g, ways, percent), impl.Graph{})
}

// checkDaily wants these Roads, and what they say themselves of their lengths.
func checkDaily(t *testing.T, name string, g impl.Graph, hours []int64, s int64, e int64, start int64, time int64, roads ...int64) {
	t.Helper()
	want := impl.Path{Found: true, Roads: roads, Time: time}
	for _, r := range roads {
		want.Length += g.Roads[r].Length
	}
	checkPath(t, name, impl.Daily(g, hours, s, e, start), want)
}

func checkNoDay(t *testing.T, name string, g impl.Graph, hours []int64, s int64, e int64, start int64) {
	t.Helper()
	checkPath(t, name, impl.Daily(g, hours, s, e, start), impl.Path{})
}

func checkCenter(t *testing.T, name string, g impl.Graph, among []int64, want int64) {
	t.Helper()
	if got := impl.Center(g, among); got != want {
		t.Error(name, "gives", got, "and not", want, short(among), short(g))
	}
}
