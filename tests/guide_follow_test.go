package tests

import (
	"math"
	"slices"
	"testing"

	"loop.example/g00024/impl"
)

// Promise 17, of what one drives by steps.

func TestFollowWithoutSteps(t *testing.T) {
	g := crossroads()
	for s := range int64(4) {
		checkFollow(t, "no steps", g, s, nil, true)
		checkFollow(t, "no steps", g, s, []impl.Turning{}, true)
	}
	checkFollow(t, "no Roads", manyPlaces(1), 0, nil, true)
	for _, s := range []int64{-1, 4, 5, math.MinInt64, math.MaxInt64} {
		checkFollow(t, "no place", g, s, nil, false)
		checkFollow(t, "no place", g, s, []impl.Turning{take(9, 0, 1)}, false)
	}
	checkFollow(t, "no places", impl.Graph{}, 0, nil, false)
	for _, bad := range badGraphs() {
		checkFollow(t, bad.name, bad.graph, 0, nil, false)
		checkFollow(t, bad.name, bad.graph, 0, []impl.Turning{take(9, 0, 1)}, false)
		checkFollow(t, bad.name, bad.graph, 3, []impl.Turning{take(9, 0, 1), take(0, 0, 1)}, false)
	}
}

func TestFollowTheFirstStep(t *testing.T) {
	g := branch(3, 0, 2, 8)
	for which := range int64(3) {
		checkFollow(t, "from the middle", g, 0, []impl.Turning{take(9, which, 1)}, true, which+1)
	}
	for _, which := range []int64{-1, 3, 4, math.MinInt64, math.MaxInt64} {
		checkFollow(t, "from the middle", g, 0, []impl.Turning{take(9, which, 1)}, false)
	}
	checkFollow(t, "from the end", g, 1, []impl.Turning{take(9, 0, 1)}, true, 0)
	checkFollow(t, "from the end, one more", g, 1, []impl.Turning{take(9, 1, 1)}, false)
	checkFollow(t, "from where none begins", g, 2, []impl.Turning{take(9, 0, 1)}, false)
	for _, wind := range append(strange(), 0, 1, 2, 3, 4, 5, 6, 7, 8, 10) {
		for s := range int64(4) {
			checkFollow(t, "another wind", g, s, []impl.Turning{take(wind, 0, 1)}, false)
		}
	}
	// What is forbidden is so behind another Road alone.
	checkFollow(t, "forbidden turns", withBans(g, ban(0, 1), ban(0, 2), ban(0, 3)), 0, []impl.Turning{take(9, 1, 1)}, true, 2)
}

func TestFollowEachWind(t *testing.T) {
	for wind := range int64(8) {
		g := branch(wind, 8, 7, 6, 5, 4, 3, 2, 1, 0)
		for left := range int64(9) {
			checkFollow(t, "a turn", g, 1, []impl.Turning{take(9, 0, 1), take(left, 0, 1)}, true, 0, 9-left)
			checkFollow(t, "one more", g, 1, []impl.Turning{take(9, 0, 1), take(left, 1, 1)}, false, 0)
			checkFollow(t, "below 0", g, 1, []impl.Turning{take(9, 0, 1), take(left, -1, 1)}, false, 0)
			checkFollow(t, "forbidden", withBans(g, ban(0, 9-left)), 1, []impl.Turning{take(9, 0, 1), take(left, 0, 1)}, false, 0)
		}
		for _, bad := range []int64{-1, 9, 10, math.MinInt64, math.MaxInt64} {
			checkFollow(t, "no wind", g, 1, []impl.Turning{take(9, 0, 1), take(bad, 0, 1)}, false, 0)
			checkFollow(t, "no wind, at the beginning", g, 1, []impl.Turning{take(bad-count64(bad == 9), 0, 1), take(0, 0, 1)}, false)
		}
	}
}

func count64(ok bool) int64 { return int64(count(ok)) }

func TestFollowWhich(t *testing.T) {
	g := called(branch(0, 2, 8, 2, 0, 2, 8, 2, 0), "A", "A", "B", "C")
	for which, road := range []int64{1, 3, 5, 7} {
		checkFollow(t, "to the left", g, 1, []impl.Turning{take(9, 0, 1), take(2, int64(which), 1)}, true, 0, road)
	}
	for _, which := range append(strange()[:6], 4, 5, 6, 7, 8, math.MaxInt64) {
		checkFollow(t, "to the left", g, 1, []impl.Turning{take(9, 0, 1), take(2, which, 1)}, false, 0)
	}
	without := withBans(g, ban(0, 1), ban(0, 5))
	for which, road := range []int64{3, 7} {
		checkFollow(t, "two forbidden", without, 1, []impl.Turning{take(9, 0, 1), take(2, int64(which), 1)}, true, 0, road)
	}
	checkFollow(t, "two forbidden", without, 1, []impl.Turning{take(9, 0, 1), take(2, 2, 1)}, false, 0)
	for which, road := range []int64{2, 6} {
		checkFollow(t, "back", g, 1, []impl.Turning{take(9, 0, 1), take(8, int64(which), 1)}, true, 0, road)
	}
}

func TestFollowSoManyRoads(t *testing.T) {
	g := lane(5, 1)
	along := []int64{0, 2, 4, 6, 7, 5, 3, 1, 0}
	for n := range int64(10) {
		checkFollow(t, "along", g, 0, []impl.Turning{take(9, 0, n)}, n > 0, along[:n]...)
	}
	for _, n := range []int64{0, -1, math.MinInt64, impl.MaxRoads + 1, impl.MaxRoads + 2, math.MaxInt64} {
		checkFollow(t, "along", g, 0, []impl.Turning{take(9, 0, n)}, false)
		checkFollow(t, "along", g, 0, []impl.Turning{take(9, 0, 3), take(0, 0, n)}, false, 0, 2, 4)
		checkFollow(t, "along", g, 0, []impl.Turning{take(9, 0, 3), take(0, 0, n), take(0, 0, 1)}, false, 0, 2, 4)
	}
	// What the Road ahead has is the name of the Road that one drives, not that of the step's first.
	g = called(branch(4, 0), "A", "A")
	g.Places = append(g.Places, spotAt(8, -400, 0), spotAt(9, -500, 0))
	g.Roads = append(g.Roads, timed(2, 3, 1), timed(3, 4, 1))
	g = called(g, "A", "A", "A", "B")
	for n := int64(1); n <= 3; n++ {
		checkFollow(t, "till the name ends", g, 1, []impl.Turning{take(9, 0, n)}, true, []int64{0, 1, 2}[:n]...)
	}
	for _, n := range []int64{4, 5, impl.MaxRoads} {
		checkFollow(t, "further than the name goes", g, 1, []impl.Turning{take(9, 0, n)}, false, 0, 1, 2)
		checkFollow(t, "further than the name goes", g, 1, []impl.Turning{take(9, 0, 1), take(0, 0, n-1)}, false, 0, 1, 2)
		checkFollow(t, "further than the name goes", g, 1, []impl.Turning{take(9, 0, n), take(0, 0, 1)}, false, 0, 1, 2)
		checkFollow(t, "further than the Roads go", g, 1, []impl.Turning{take(9, 0, 3), take(0, 0, 1), take(0, 0, n)}, false, 0, 1, 2, 3)
	}
	checkFollow(t, "by the other name", g, 1, []impl.Turning{take(9, 0, 3), take(0, 0, 1)}, true, 0, 1, 2, 3)
}

func TestFollowTillAStepThatIsNone(t *testing.T) {
	g := called(lane(5, 1), "A", "A", "A", "A", "B", "B", "B", "B")
	good := impl.Guide(g, []int64{0, 2, 4, 6, 7, 5, 3, 1})
	if len(good) != 3 {
		t.Fatal(good)
	}
	checkFollow(t, "all", g, 0, good, true, 0, 2, 4, 6, 7, 5, 3, 1)
	driven := [][]int64{nil, {0, 2}, {0, 2, 4, 6, 7, 5}}
	for i := range good {
		for _, spoil := range []func(s *impl.Turning){
			func(s *impl.Turning) { s.Wind = 4 }, func(s *impl.Turning) { s.Wind = -1 }, func(s *impl.Turning) { s.Wind = 10 }, func(s *impl.Turning) { s.Wind = 9 - 9*count64(i == 0) },
			func(s *impl.Turning) { s.Which = 1 }, func(s *impl.Turning) { s.Which = -1 }, func(s *impl.Turning) { s.Roads = 0 }, func(s *impl.Turning) { s.Roads = impl.MaxRoads + 1 },
		} {
			steps := slices.Clone(good)
			spoil(&steps[i])
			checkFollow(t, "one spoiled", g, 0, steps, false, driven[i]...)
		}
	}
	checkFollow(t, "turning where the name ends", g, 0, []impl.Turning{good[0], {Roads: 5}}, true, 0, 2, 4, 6, 7, 5, 4)
	checkFollow(t, "where that is forbidden", withBans(g, ban(5, 4)), 0, []impl.Turning{good[0], {Roads: 5}}, false, 0, 2, 4, 6, 7, 5)
	checkFollow(t, "the second one alone", g, 2, good[1:], false)
	checkFollow(t, "the first one twice", g, 0, []impl.Turning{good[0], good[0]}, false, 0, 2)
	checkFollow(t, "from elsewhere", g, 1, good, true, 1, 0, 2, 3, 1, 0, 2, 3)
}

func TestFollowLooksAtNoNames(t *testing.T) {
	g := called(lane(5, 1), "A", "A", "A", "A", "B", "B", "B", "B")
	steps := impl.Guide(g, []int64{0, 2, 4, 6})
	for _, name := range []string{"", "A", "B", "C", "\xff"} {
		for _, length := range strange() {
			for i := range steps {
				steps[i].Name, steps[i].Length = name, length
			}
			checkFollow(t, "other names and lengths", g, 0, steps, true, 0, 2, 4, 6)
		}
	}
}

func TestFollowAsManyRoadsAsMayBe(t *testing.T) {
	g, most := triangle(), int64(impl.MaxRoads)
	round := rounds(impl.MaxRoads)
	checkFollow(t, "one step", g, 0, []impl.Turning{take(9, 0, most)}, true, round...)
	checkFollow(t, "a step with one more", g, 0, []impl.Turning{take(9, 0, most+1)}, false)
	checkFollow(t, "two steps", g, 0, []impl.Turning{take(9, 0, most-1), take(3, 0, 1)}, true, round...)
	checkFollow(t, "two steps, one more", g, 0, []impl.Turning{take(9, 0, most-1), take(3, 0, 2)}, false, round...)
	checkFollow(t, "two steps, many more", g, 0, []impl.Turning{take(9, 0, most-1), take(3, 0, most)}, false, round...)
	checkFollow(t, "two steps, too many in the second", g, 0, []impl.Turning{take(9, 0, most-1), take(3, 0, most+1)}, false, round[:most-1]...)
	checkFollow(t, "a step beyond", g, 0, []impl.Turning{take(9, 0, most), take(3, 0, 1)}, false, round...)
	checkFollow(t, "a step beyond that is none", g, 0, []impl.Turning{take(9, 0, most), take(0, 0, 1)}, false, round...)
	checkFollow(t, "a step beyond without Roads", g, 0, []impl.Turning{take(9, 0, most), take(3, 0, 0)}, false, round...)
	// Each Road by itself.
	steps := []impl.Turning{take(9, 0, 1)}
	for len(steps) < 3*impl.MaxRoads {
		steps = append(steps, take([]int64{4, 3, 2}[len(steps)%3], 0, 1))
	}
	g = triangle()
	g.Places = []impl.Spot{spotAt(1, 0, 0), spotAt(2, 100, 0), spotAt(3, 0, 100)}
	for i := range steps[1:] {
		steps[i+1].Wind = windFrom(g, int64(i%3), int64((i+1)%3))
	}
	checkFollow(t, "as many steps", g, 0, steps[:impl.MaxRoads], true, round...)
	checkFollow(t, "one step more", g, 0, steps[:impl.MaxRoads+1], false, round...)
	checkFollow(t, "many more", g, 0, steps, false, round...)
	checkFollow(t, "one less", g, 0, steps[:impl.MaxRoads-1], true, round[:impl.MaxRoads-1]...)
	checkFollow(t, "Guide of one more", g, 0, impl.Guide(g, rounds(impl.MaxRoads+1)), false)
}
