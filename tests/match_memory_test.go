package tests

import (
	"slices"
	"testing"

	"loop.example/g00024/impl"
)

// Promise 19, of chapter 13: every function answers at every argument and none panics; answers are new memory; arguments stay.

type graphAndPoint struct {
	Graph impl.Graph
	Point impl.Point
}

type graphAndTrace struct {
	Graph impl.Graph
	Trace []impl.Point
	Picks []int64
}

func askCands(a graphAndPoint) []impl.Cand { return impl.Candidates(a.Graph, a.Point) }

func askMatch(a graphAndTrace) impl.Matched { return impl.Match(a.Graph, a.Trace) }

func askCost(a graphAndTrace) int64 { return impl.MatchCost(a.Graph, a.Trace, a.Picks) }

func TestGraphsStayAndMatchesAreNew(t *testing.T) {
	tell := numbers(158)
	graphs := append(streetsToGuard(), avenue(), block(), withBans(block(), ban(1, 2)), bypass(1000, 400, 600), ladder(9))
	for range 60 {
		graphs = append(graphs, bothWays(someLanes(tell, 60, 1+tell.Intn(5), 1+tell.Intn(7))))
	}
	traces := [][]impl.Point{
		nil, {}, path(0, 0), path(500, 0), path(3, 4, 3, 4), path(0, 0, 5, 5, 0, 9), path(700, 0, 300, 0), path(500, 0, 1000, 0, 2500, 0),
		path(500, 0, 0, 90000), sameTrace(40, 0, 0), sameTrace(41, 0, 0), {outside()[0]}, {at(0, 0), outside()[5]},
	}
	for _, g := range graphs {
		for _, trace := range traces {
			for _, p := range trace[:min(3, len(trace))] {
				checkMemory(t, "Candidates", graphAndPoint{g, p}, askCands)
			}
			checkMemory(t, "Match", graphAndTrace{g, trace, nil}, askMatch)
			for _, picks := range [][]int64{nil, {0}, {0, 0}, {0, 1, 0}, make([]int64, 40), {-1}, {9, 0}} {
				checkMemory(t, "MatchCost", graphAndTrace{g, trace, picks}, askCost)
			}
		}
	}
}

// What was told before stays as it was, whatever is done to the arguments and to what is told later.
func TestMatchesDoNotFollow(t *testing.T) {
	g := withBans(block(), ban(2, 3))
	trace := path(500, 2, 1000, 0, 1000, 700)
	ask := func() (impl.Matched, []impl.Cand) { return impl.Match(g, trace), impl.Candidates(g, trace[1]) }
	match, cands := ask()
	later, others := ask()
	clear(later.Roads)
	_ = append(later.Roads, 7, 7, 7)
	clear(others)
	_ = append(others, impl.Cand{}, impl.Cand{})
	clear(g.Places)
	clear(g.Roads)
	clear(g.Bans)
	clear(trace)
	checkMatched(t, "told before", match, impl.Matched{Found: true, Roads: []int64{0, 0, 1}, Cost: 4 + 0 + 3})
	if !slices.Equal(cands, []impl.Cand{cand(0, 0, 1000), cand(1, 0, 0)}) {
		t.Error("told before", cands)
	}
}

func TestMatchesOfEveryKindAreAnswered(t *testing.T) {
	tell := numbers(159)
	good, found, costs := map[bool]int{}, map[bool]int{}, 0
	for range 25000 {
		number := func() int64 {
			if tell.Intn(100) > 0 {
				return tell.Int63n(3)
			}
			return pick(tell, strange()...)
		}
		g := someWildGraph(number, 2+tell.Intn(2), 1+tell.Intn(5), tell.Intn(6)/4)
		var trace []impl.Point
		var picks []int64
		for range tell.Intn(4) {
			trace = append(trace, at(number(), number()))
			picks = append(picks, number())
		}
		picks = picks[:max(0, len(picks)-tell.Intn(9)/8)]
		good[graphCanBe(g)]++
		for _, p := range trace {
			checkCands(t, "strange", g, p, candidatesOf(g, p)...)
		}
		told := matchOf(g, trace)
		checkMatched(t, "strange", impl.Match(g, trace), told)
		found[told.Found]++
		cost := matchCostOf(g, trace, picks)
		checkCost(t, "strange", g, trace, cost, picks...)
		costs += count(cost >= 0)
		if t.Failed() {
			t.Fatal(g, trace, picks)
		}
	}
	if good[true] < 4000 || good[false] < 4000 || found[true] < 2000 || found[false] < 2000 || costs < 1000 {
		t.Error("too few of a kind:", good, found, costs)
	}
	for _, g := range []impl.Graph{{Places: make([]impl.Spot, 1<<20)}, {Roads: make([]impl.Road, 1<<20)}, {Bans: make([]impl.Ban, 1<<20)}} {
		checkCands(t, "a great list", g, at(0, 0))
		checkNoMatch(t, "a great list", g, path(0, 0))
		checkCost(t, "a great list", g, path(0, 0), -1, 0)
	}
	checkNoMatch(t, "a great trace", loops(1), make([]impl.Point, 1<<20))
	checkCost(t, "great lists", loops(1), make([]impl.Point, 1<<20), -1, make([]int64, 1<<20)...)
}

// At the greatest numbers that there are nothing is passed.
func TestMatchesOfGreatNumbers(t *testing.T) {
	const m = impl.MaxCoord
	g := withRoads(spots(-m, -m, m, m, m, -m), long(0, 1, impl.MaxId), long(1, 2, 0), long(2, 0, impl.MaxId))
	corner := int64(28284271)
	checkMatch(t, "over the whole plane", g, path(-m, -m, m, m), 0, 0, 0)
	// At the corners there are two Roads each, as near.
	checkCost(t, "back over the whole plane", g, path(m, m, -m, -m), (impl.MaxId-corner)+impl.MaxId-corner+9, 0, 0)
	checkCost(t, "onto the last", g, path(-m, -m, -m+60, -m), matchCostOf(g, path(-m, -m, -m+60, -m), []int64{1, 0}), 1, 0)
	for _, trace := range [][]impl.Point{path(m, m, -m, -m), path(m, m, -m, -m, m, -m, m, m), slices.Repeat(path(m, -m, -m, -m, m, m), 13)} {
		checkMatched(t, "over the whole plane", impl.Match(g, trace), matchOf(g, trace))
	}
}

func TestTheSameMatchesAreAnsweredAgain(t *testing.T) {
	tell := numbers(160)
	for range 300 {
		g := bothWays(someLanes(tell, 60, 1+tell.Intn(5), 1+tell.Intn(8)))
		trace := onRoads(tell, g, make([]int64, 1+tell.Intn(6)))
		match, cands, cost := impl.Match(g, trace), impl.Candidates(g, trace[0]), impl.MatchCost(g, trace, make([]int64, len(trace)))
		impl.Match(avenue(), path(500, 0, 1500, 0))
		impl.Match(block(), path(700, 0, 300, 0))
		impl.MatchCost(loops(7), sameTrace(2, 0, 0), []int64{5, 5})
		for range 3 {
			checkMatched(t, "again", impl.Match(g, trace), match)
			checkCands(t, "again", g, trace[0], cands...)
			checkCost(t, "again", g, trace, cost, make([]int64, len(trace))...)
		}
	}
}
