package tests

import (
	"math/rand"
	"slices"
	"testing"

	"loop.example/g00024/impl"
)

func cand(road int64, far int64, along int64) impl.Cand {
	return impl.Cand{Road: road, Far: far, At: along}
}

// long is a Road of that Length.
func long(from int64, to int64, length int64) impl.Road {
	return impl.Road{From: from, To: to, Way: 1, Time: 1, Length: length}
}

// spots is a graph with places at these coordinates, which stand by twos.
func spots(coords ...int64) impl.Graph {
	var g impl.Graph
	for i, p := range path(coords...) {
		g.Places = append(g.Places, impl.Spot{Id: int64(i + 1), Point: p})
	}
	return g
}

// withRoads is the same graph with these besides.
func withRoads(g impl.Graph, roads ...impl.Road) impl.Graph {
	g = same(g)
	g.Roads = append(g.Roads, roads...)
	return g
}

// asFar is the same graph with the Lengths that the points say.
func asFar(g impl.Graph) impl.Graph {
	g = same(g)
	for i, r := range g.Roads {
		g.Roads[i].Length = impl.Distance(g.Places[r.From].Point, g.Places[r.To].Point)
	}
	return g
}

// avenue leads one way to the east over five places: Roads 0 to 3, each 1000 long.
func avenue() impl.Graph {
	return withRoads(spots(0, 0, 1000, 0, 2000, 0, 3000, 0, 4000, 0), long(0, 1, 1000), long(1, 2, 1000), long(2, 3, 1000), long(3, 4, 1000))
}

// bypass has Road 0 from the west to a fork and Road 4 from behind it to the east, Road 1 straight between them, and Roads 2 and 3
// there by the north. Only Roads 0 and 4 are near the trace of byBypass.
func bypass(straight int64, first int64, second int64) impl.Graph {
	return withRoads(spots(0, 0, 1000, 0, 2000, 0, 3000, 0, 1500, 1000),
		long(0, 1, 1000), long(1, 2, straight), long(1, 4, first), long(4, 2, second), long(2, 3, 1000))
}

func byBypass() []impl.Point { return path(500, 0, 2500, 0) }

// block is driven round one way, to the left: Roads 0 to 3, each 1000 long.
func block() impl.Graph {
	return withRoads(spots(0, 0, 1000, 0, 1000, 1000, 0, 1000), long(0, 1, 1000), long(1, 2, 1000), long(2, 3, 1000), long(3, 0, 1000))
}

// sameTrace is that place so many times.
func sameTrace(count int, x int64, y int64) []impl.Point {
	return slices.Repeat([]impl.Point{at(x, y)}, count)
}

func sameMatch(a impl.Matched, b impl.Matched) bool {
	return a.Found == b.Found && a.Cost == b.Cost && slices.Equal(a.Roads, b.Roads)
}

func checkCands(t *testing.T, name string, g impl.Graph, p impl.Point, want ...impl.Cand) {
	t.Helper()
	if got := impl.Candidates(g, p); !slices.Equal(got, want) {
		t.Error(name, p, "gives", short(got), "and not", short(want))
	}
}

func checkMatched(t *testing.T, name string, got impl.Matched, want impl.Matched) {
	t.Helper()
	if !sameMatch(got, want) {
		t.Error(name, "gives", short(got), "and not", short(want))
	}
}

// picksFor are the numbers of the candidates with these Roads.
func picksFor(g impl.Graph, trace []impl.Point, roads []int64) []int64 {
	var picks []int64
	for i, p := range trace {
		picks = append(picks, int64(slices.IndexFunc(impl.Candidates(g, p), func(c impl.Cand) bool { return c.Road == roads[i] })))
	}
	return picks
}

// checkMatch wants these Roads, and that MatchCost says just that of them.
func checkMatch(t *testing.T, name string, g impl.Graph, trace []impl.Point, cost int64, roads ...int64) {
	t.Helper()
	checkMatched(t, name, impl.Match(g, trace), impl.Matched{Found: true, Roads: roads, Cost: cost})
	checkCost(t, name, g, trace, cost, picksFor(g, trace, roads)...)
}

func checkNoMatch(t *testing.T, name string, g impl.Graph, trace []impl.Point) {
	t.Helper()
	checkMatched(t, name, impl.Match(g, trace), impl.Matched{})
}

func checkCost(t *testing.T, name string, g impl.Graph, trace []impl.Point, want int64, picks ...int64) {
	t.Helper()
	if got := impl.MatchCost(g, trace, picks); got != want {
		t.Error(name, short(picks), "gives", got, "and not", want, short(trace))
	}
}

// someLanes is a graph over so wide a place; often its Lengths are those of its points.
func someLanes(r *rand.Rand, wide int64, places int, roads int) impl.Graph {
	var g impl.Graph
	for i := range int64(places) {
		g.Places = append(g.Places, impl.Spot{Id: i + 1, Point: somewhere(r, wide)})
	}
	most := pick(r, 1, 4, wide, 3*wide)
	for range roads {
		g.Roads = append(g.Roads, long(r.Int63n(int64(places)), r.Int63n(int64(places)), r.Int63n(most)))
	}
	if r.Intn(2) == 0 {
		g = asFar(g)
	}
	return withBans(g, someOf(r, g, pick(r, 0, 0, 1, 3, 6))...)
}

// bothWays is the same graph with each Road driven the other way too.
func bothWays(g impl.Graph) impl.Graph {
	for _, r := range g.Roads {
		g = withRoads(g, long(r.To, r.From, r.Length))
	}
	return g
}

// onRoads is a trace beside these Roads, one after the other.
func onRoads(r *rand.Rand, g impl.Graph, roads []int64) []impl.Point {
	var trace []impl.Point
	for _, n := range roads {
		a, b := g.Places[g.Roads[n].From].Point, g.Places[g.Roads[n].To].Point
		part := r.Int63n(101)
		trace = append(trace, at(a.X+(b.X-a.X)*part/100+within(r, 9), a.Y+(b.Y-a.Y)*part/100+within(r, 9)))
	}
	return trace
}
