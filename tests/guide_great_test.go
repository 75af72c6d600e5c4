package tests

import (
	"slices"
	"testing"

	"loop.example/g00024/impl"
)

// Promise 17, of graphs and paths as great as may be: they are answered, and in a time that a test can wait for.

func TestInstructionsAlongALane(t *testing.T) {
	g := lane(4001, impl.MaxTime)
	for i := range g.Roads {
		g.Roads[i].Length = impl.MaxId
	}
	var roads []int64
	for i := range int64(4000) {
		roads = append(roads, 2*i)
	}
	for i := range int64(4000) {
		roads = append(roads, 7999-2*i)
	}
	checkGuide(t, "there and back", g, roads, turning(9, 0, "", 8000, 8000*impl.MaxId))
	checkDriven(t, "there and back", g, roads)
	checkAgain(t, "there and back", g, impl.Guide(g, roads), 0, 4000, 3998, impl.Path{Found: true, Roads: []int64{7999, 7997}, Time: 2 * impl.MaxTime, Length: 2 * impl.MaxId})
	// Another name on every other stretch, so that each Road is a step.
	for i := range g.Roads {
		g.Roads[i].Name = []string{"Old Mill Lane", "Old Mill Street"}[i/2%2]
	}
	// At the end one turns back into the same street.
	steps := impl.Guide(g, roads)
	if len(steps) != 7999 || steps[1] != turning(0, 0, "Old Mill Street", 1, impl.MaxId) || steps[3999].Roads != 2 {
		t.Error("by streets:", len(steps), short(steps))
	}
	checkDriven(t, "by streets", g, roads)
}

func TestInstructionsOfLoops(t *testing.T) {
	g := loops(impl.MaxRoads)
	var roads []int64
	for i := range int64(impl.MaxRoads) {
		roads = append(roads, impl.MaxRoads-1-i)
	}
	steps := []impl.Turning{turning(9, 7999, "", 1, 0)}
	for _, road := range roads[1 : len(roads)-1] {
		steps = append(steps, turning(8, road, "", 1, 0))
	}
	// The first of all is the Road ahead of each.
	steps[len(steps)-1].Roads = 2
	checkGuide(t, "all loops", g, roads, steps...)
	checkDriven(t, "all loops", g, roads)
	for _, road := range []int64{0, 1, 4000, 7999} {
		checkAhead(t, "all loops", g, road, 0)
	}
}

func TestInstructionsWhereThousandsMeet(t *testing.T) {
	tell := numbers(215)
	for _, where := range []func(i int64) impl.Point{
		func(int64) impl.Point { return somewhere(tell, 1000) }, func(i int64) impl.Point { return at(100+i, 0) },
	} {
		g := hub(4000, where, func(int64) int64 { return 1 })
		for i := range g.Roads {
			g.Roads[i].Name = pick(tell, "", "A", "B")
		}
		// From one to the next by the middle; Road 2i leads there from the i-th other place, 2i + 1 back.
		var roads []int64
		for i := range int64(4000) {
			other := (i * 1237) % 4000
			roads = append(roads, 2*other, 2*((i+1)*1237%4000)+1)
		}
		for i := range roads[:3] {
			checkGuide(t, "the first ones", g, roads[:i+1], guideOf(g, roads[:i+1])...)
		}
		checkDriven(t, "by the middle", g, roads)
		var bans []impl.Ban
		for i := range int64(2000) {
			bans = append(bans, ban(0, 2*i+3))
		}
		g = withBans(g, bans...)
		checkDriven(t, "by the middle, with Bans", g, append(slices.Clone(roads[2:]), 0, 4005))
		checkAhead(t, "by the middle, with Bans", g, 0, aheadIn(g, 0))
	}
}

// endless has for each Road those that may follow and from which one can go on as far as one likes.
func endless(g impl.Graph) [][]int64 {
	turns := make([][]int64, len(g.Roads))
	for i, r := range g.Roads {
		for next, other := range g.Roads {
			if r.To == other.From && !banned(g, int64(i), int64(next)) {
				turns[i] = append(turns[i], int64(next))
			}
		}
	}
	for again := true; again; {
		again = false
		for i := range turns {
			before := len(turns[i])
			turns[i] = slices.DeleteFunc(turns[i], func(next int64) bool { return len(turns[next]) == 0 })
			again = again || len(turns[i]) < before
		}
	}
	return turns
}

func TestInstructionsInAGreatTown(t *testing.T) {
	tell := numbers(216)
	g := greatTown(tell)
	streets := []string{"", "Mill Lane", "Mill Street", "North"}
	for i := range g.Roads {
		g.Roads[i].Name = streets[i/50%4]
	}
	for range 20 {
		road := tell.Int63n(impl.MaxRoads)
		checkAhead(t, "in the town", g, road, aheadIn(g, road))
	}
	turns := endless(g)
	roads := []int64{int64(slices.IndexFunc(turns, func(next []int64) bool { return len(next) > 0 }))}
	for len(roads) < impl.MaxRoads {
		roads = append(roads, pick(tell, turns[roads[len(roads)-1]]...))
	}
	checkDriven(t, "in the town", g, roads)
	checkGuide(t, "in the town", g, roads[:60], guideOf(g, roads[:60])...)
	steps := impl.Guide(g, roads)
	checkFollow(t, "one Road too many", g, g.Roads[roads[0]].From, append(steps, take(0, 0, 1)), false, roads...)
	long := 0
	for range 200 {
		s, to := tell.Int63n(impl.MaxNodes), tell.Int63n(impl.MaxNodes)
		p := impl.BestPath(g, s, to)
		if len(p.Roads) < 30 {
			continue
		}
		long++
		checkGuide(t, "across the town", g, p.Roads, guideOf(g, p.Roads)...)
		checkDriven(t, "across the town", g, p.Roads)
		checkAgain(t, "across the town", g, impl.Guide(g, p.Roads), s, 10, to, impl.BestPath(g, g.Roads[p.Roads[9]].To, to))
		if long == 4 {
			return
		}
	}
	t.Error("too few long ways", long)
}
