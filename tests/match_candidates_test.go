package tests

import (
	"math"
	"testing"

	"loop.example/g00024/impl"
)

// Promise 13, of Candidates: the Roads that are near, by Far and then by number.

func TestCandidates(t *testing.T) {
	g := avenue()
	checkCands(t, "beside one", g, at(500, 7), cand(0, 7, 500))
	checkCands(t, "beside one, to the south", g, at(1300, -60), cand(1, 60, 300))
	checkCands(t, "near two", g, at(1020, 30), cand(1, 30, 20), cand(0, 36, 1000))
	checkCands(t, "as near to two", g, at(2000, 9), cand(1, 9, 1000), cand(2, 9, 0))
	checkCands(t, "ahead of the beginning", g, at(-40, 30), cand(0, 50, 0))
	checkCands(t, "behind the end", g, at(4040, 30), cand(3, 50, 1000))
	// The first one by Far may have any number.
	checkCands(t, "the later one is nearer", g, at(3001, 0), cand(3, 0, 1), cand(2, 1, 1000))
}

func TestCandidatesOnARoad(t *testing.T) {
	g := withRoads(spots(0, 0, 300, 400, 300, 900), long(0, 1, 500), long(1, 2, 500))
	checkCands(t, "on it", g, at(150, 200), cand(0, 0, 250))
	checkCands(t, "at its beginning", g, at(0, 0), cand(0, 0, 0))
	checkCands(t, "at its end", g, at(300, 900), cand(1, 0, 500))
	checkCands(t, "at the end of one and the beginning of the other", g, at(300, 400), cand(0, 0, 500), cand(1, 0, 0))
	// How long the Road says it is does not count: At is by the points.
	g.Roads[0].Length, g.Roads[1].Length = 7, 100000
	checkCands(t, "a Length of its own", g, at(150, 200), cand(0, 0, 250))
	checkCands(t, "a Length of its own", g, at(300, 900), cand(1, 0, 500))
}

func TestCandidatesThereAndBack(t *testing.T) {
	g := withRoads(spots(0, 0, 1000, 0), long(0, 1, 1000), long(1, 0, 1000))
	checkCands(t, "there and back", g, at(300, 5), cand(0, 5, 300), cand(1, 5, 700))
	checkCands(t, "at the beginning of the one", g, at(0, 0), cand(0, 0, 0), cand(1, 0, 1000))
	checkCands(t, "beyond the end of the one", g, at(1010, 0), cand(0, 10, 1000), cand(1, 10, 0))
	g.Roads[0], g.Roads[1] = g.Roads[1], g.Roads[0]
	checkCands(t, "back and there", g, at(300, 5), cand(0, 5, 700), cand(1, 5, 300))
	// Each part of the point is rounded down, whichever way the Road goes.
	g = withRoads(spots(0, 0, 3, 3), long(0, 1, 4), long(1, 0, 4))
	checkCands(t, "rounded down", g, at(1, 2), cand(0, 1, 1), cand(1, 1, 3))
}

func TestCandidatesAtTheLimit(t *testing.T) {
	g := avenue()
	for _, y := range []int64{60, -60} {
		checkCands(t, "as far as may be", g, at(500, y), cand(0, 60, 500))
		checkCands(t, "one more", g, at(500, y+y/60))
	}
	checkCands(t, "as far as may be, to the west", g, at(-60, 0), cand(0, 60, 0))
	checkCands(t, "one more, to the west", g, at(-61, 0))
	checkCands(t, "as far as may be, slanting", g, at(4036, 48), cand(3, 60, 1000))
	// 60.299 is 60, and 60.53 is 61.
	checkCands(t, "rounded to the limit", g, at(4060, 6), cand(3, 60, 1000))
	checkCands(t, "rounded beyond the limit", g, at(4060, 8))
	checkCands(t, "one at the limit, one beyond", g, at(1060, 0), cand(1, 0, 60), cand(0, 60, 1000))
	checkCands(t, "one beyond the limit", g, at(1061, 0), cand(1, 0, 61))
	checkCands(t, "none near", g, at(500, 5000))
	checkCands(t, "as far away as can be", g, at(impl.MaxCoord, -impl.MaxCoord))
	checkCands(t, "no Roads", manyPlaces(5), at(0, 0))
	checkCands(t, "no graph at all", impl.Graph{}, at(0, 0))
}

// ladder has so many Roads beside each other, each one to the north of the one ahead.
func ladder(count int64) impl.Graph {
	var g impl.Graph
	for i := range count {
		g.Places = append(g.Places, spotAt(2*i+1, 0, i), spotAt(2*i+2, 1000, i))
		g.Roads = append(g.Roads, long(2*i, 2*i+1, 1000))
	}
	return g
}

func TestCandidatesAsManyAsMayBe(t *testing.T) {
	checkCands(t, "five", ladder(5), at(50, -1), cand(0, 1, 50), cand(1, 2, 50), cand(2, 3, 50), cand(3, 4, 50), cand(4, 5, 50))
	six := []impl.Cand{cand(0, 1, 50), cand(1, 2, 50), cand(2, 3, 50), cand(3, 4, 50), cand(4, 5, 50), cand(5, 6, 50)}
	checkCands(t, "six", ladder(6), at(50, -1), six...)
	checkCands(t, "seven", ladder(7), at(50, -1), six...)
	checkCands(t, "from the other side", ladder(7), at(50, 7), cand(6, 1, 50), cand(5, 2, 50), cand(4, 3, 50), cand(3, 4, 50), cand(2, 5, 50), cand(1, 6, 50))
	checkCands(t, "from the middle", ladder(8), at(50, 4), cand(4, 0, 50), cand(3, 1, 50), cand(5, 1, 50), cand(2, 2, 50), cand(6, 2, 50), cand(1, 3, 50))
	// Of the same Far the first ones stay.
	var alike []impl.Cand
	for i := range int64(6) {
		alike = append(alike, cand(i, 5, 0))
	}
	checkCands(t, "six alike", loops(6), at(3, 4), alike...)
	checkCands(t, "seven alike", loops(7), at(3, 4), alike...)
	checkCands(t, "thousands alike", loops(8000), at(3, 4), alike...)
	// The last one is nearest of thousands.
	g := loops(8000)
	g.Places = append(g.Places, spotAt(2, 3, 4))
	g.Roads[7999].To = 1
	checkCands(t, "the last is nearest", g, at(3, 4), append([]impl.Cand{cand(7999, 0, 5)}, alike[:5]...)...)
}

func TestCandidatesWhereAllRoadsAreOnePoint(t *testing.T) {
	g := onOnePoint(2, long(0, 1, 50), long(1, 1, 0), long(1, 0, 9))
	checkCands(t, "at it", g, at(3, 4), cand(0, 0, 0), cand(1, 0, 0), cand(2, 0, 0))
	checkCands(t, "beside it", g, at(3, 64), cand(0, 60, 0), cand(1, 60, 0), cand(2, 60, 0))
	checkCands(t, "too far", g, at(3, 65))
}

// Forbidden turns have nothing to say here.
func TestCandidatesOfForbiddenTurns(t *testing.T) {
	g := withBans(avenue(), ban(0, 1), ban(1, 2))
	checkCands(t, "forbidden", g, at(1000, 0), cand(0, 0, 1000), cand(1, 0, 0))
}

func TestCandidatesAtTheEdgeOfThePlane(t *testing.T) {
	const m = impl.MaxCoord
	g := withRoads(spots(-m, -m, m, m, m, -m), long(0, 1, 1), long(2, 1, 1))
	checkCands(t, "at the corner", g, at(m, m), cand(0, 0, 28284271), cand(1, 0, 20000000))
	checkCands(t, "in the middle", g, at(30, -30), cand(0, 42, 14142136))
	checkCands(t, "beside the edge", g, at(m-60, -m), cand(1, 60, 0))
	for _, p := range outside() {
		checkCands(t, "beyond the edge", g, p)
		checkCands(t, "beyond the edge, no Roads", impl.Graph{}, p)
	}
	for _, n := range []int64{m + 1, -m - 1, math.MaxInt64, math.MinInt64} {
		checkCands(t, "one part beyond", g, at(m, n))
		checkCands(t, "one part beyond", g, at(n, -m))
	}
}

func TestCandidatesOfGraphsThatCantBe(t *testing.T) {
	for _, bad := range badGraphs() {
		checkCands(t, bad.name, bad.graph, at(0, 0))
		checkCands(t, bad.name, bad.graph, at(5, 0))
	}
	checkCands(t, "as many Roads as may be", loops(8000), at(0, 0), cand(0, 0, 0), cand(1, 0, 0), cand(2, 0, 0), cand(3, 0, 0), cand(4, 0, 0), cand(5, 0, 0))
}

func TestCandidatesAreThoseOfTheWords(t *testing.T) {
	tell := numbers(150)
	sizes, fars := map[int]int{}, map[int64]int{}
	for range 8000 {
		g := someLanes(tell, 60, 1+tell.Intn(6), tell.Intn(12))
		for _, p := range someRow(tell, 3, pick(tell, int64(60), 100)) {
			want := candidatesOf(g, p)
			checkCands(t, "drawn", g, p, want...)
			sizes[len(want)]++
			for i, c := range want {
				fars[c.Far]++
				row := []impl.Point{g.Places[g.Roads[c.Road].From].Point, g.Places[g.Roads[c.Road].To].Point}
				if foot := impl.Near(row, p); foot.Far != c.Far || foot.At != c.At {
					t.Error("Near says", foot, "and not", c)
				}
				if i > 0 && (want[i-1].Far > c.Far || want[i-1].Far == c.Far && want[i-1].Road >= c.Road) {
					t.Error("out of order", want)
				}
			}
		}
		if t.Failed() {
			t.Fatal(g)
		}
	}
	for n := range 7 {
		if sizes[n] < 200 {
			t.Error("too few with", n, "candidates:", sizes)
		}
	}
	if fars[60] < 50 || fars[0] < 50 {
		t.Error("too few at the limit:", fars)
	}
}

// Over the whole plane: Roads of every length, and points beside them.
func TestCandidatesNearAndFar(t *testing.T) {
	tell := numbers(151)
	found := 0
	for range 4000 {
		g := impl.Graph{}
		wide := pick(tell, int64(100), 5000, 100000, impl.MaxCoord-20)
		for i := range int64(4) {
			g.Places = append(g.Places, impl.Spot{Id: i + 1, Point: somewhere(tell, wide)})
		}
		for range 5 {
			g.Roads = append(g.Roads, long(tell.Int63n(4), tell.Int63n(4), 1))
		}
		for _, p := range append(onRoads(tell, g, []int64{0, 1, 2}), somewhere(tell, wide)) {
			want := candidatesOf(g, p)
			checkCands(t, "drawn", g, p, want...)
			found += len(want)
		}
		if t.Failed() {
			t.Fatal(g)
		}
	}
	if found < 4000 {
		t.Error("too few are near:", found)
	}
}
