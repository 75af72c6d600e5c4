package tests

import (
	"math/rand"
	"slices"
	"testing"

	"loop.example/g00024/impl"
)

// branch comes in one wind by Road 0 from place 1 to place 0. From there a Road leads on for each of the lefts, that many winds to the
// left: 1 to place 2, 2 to place 3 and so on; one of 8 leads back to place 1 instead. No Road has a name.
func branch(wind int64, lefts ...int64) impl.Graph {
	around := winds()
	g := impl.Graph{
		Places: []impl.Spot{spotAt(1, 0, 0), {Id: 2, Point: around[(wind+4)%8]}},
		Roads:  []impl.Road{{From: 1, To: 0, Way: 1, Time: 1, Length: 100}},
	}
	for i, left := range lefts {
		p, far := around[(wind+left)%8], int64(i+2)
		g.Places = append(g.Places, spotAt(far+1, p.X*far, p.Y*far))
		r := impl.Road{To: far, Way: far, Time: 1, Length: 100 + far - 1}
		if left == 8 {
			r.To = 1
		}
		g.Roads = append(g.Roads, r)
	}
	return g
}

// called is the same graph with these names of its first Roads, the others without one.
func called(g impl.Graph, names ...string) impl.Graph {
	g = same(g)
	for i := range g.Roads {
		g.Roads[i].Name = ""
		if i < len(names) {
			g.Roads[i].Name = names[i]
		}
	}
	return g
}

// triangle is driven round by its Roads 0, 1 and 2, all of one name.
func triangle() impl.Graph {
	g := impl.Graph{Places: []impl.Spot{spotAt(1, 0, 0), spotAt(2, 100, 0), spotAt(3, 0, 100)}}
	for i := range int64(3) {
		g.Roads = append(g.Roads, impl.Road{From: i, To: (i + 1) % 3, Way: 1, Time: 1, Length: 10, Name: "Round"})
	}
	return g
}

// rounds are so many Roads of a triangle.
func rounds(count int) []int64 {
	var roads []int64
	for i := range count {
		roads = append(roads, int64(i%3))
	}
	return roads
}

func turning(wind int64, which int64, name string, roads int64, length int64) impl.Turning {
	return impl.Turning{Wind: wind, Which: which, Name: name, Roads: roads, Length: length}
}

// take is a step of which is told only what has to be driven.
func take(wind int64, which int64, roads int64) impl.Turning {
	return impl.Turning{Wind: wind, Which: which, Roads: roads}
}

func checkAhead(t *testing.T, name string, g impl.Graph, road int64, want int64) {
	t.Helper()
	if got := impl.Ahead(g, road); got != want {
		t.Error(name+": ahead of", road, "is", got, "and not", want, short(g))
	}
}

func checkGuide(t *testing.T, name string, g impl.Graph, roads []int64, want ...impl.Turning) {
	t.Helper()
	if got := impl.Guide(g, roads); !slices.Equal(got, want) {
		t.Error(name+": the steps of", short(roads), "are", short(got), "and not", short(want), short(g))
	}
}

func checkFollow(t *testing.T, name string, g impl.Graph, s int64, steps []impl.Turning, ok bool, want ...int64) {
	t.Helper()
	if got, done := impl.Follow(g, s, steps); done != ok || !slices.Equal(got, want) {
		t.Error(name+": by", short(steps), "from", s, "one drives", short(got), done, "and not", short(want), ok, short(g))
	}
}

func checkSay(t *testing.T, step impl.Turning, want string) {
	t.Helper()
	if got := impl.Say(step); got != want {
		t.Errorf("%v is said as %q and not %q", step, short(got), short(want))
	}
}

func checkAgain(t *testing.T, name string, g impl.Graph, steps []impl.Turning, s int64, after int64, to int64, want impl.Path) {
	t.Helper()
	if got := impl.Again(g, steps, s, after, to); !samePath(got, want) {
		t.Error(name+": behind", after, "Roads of", short(steps), "from", s, "to", to, "one goes", short(got), "and not", short(want), short(g))
	}
}

// checkDriven asks of a path that its steps drive it, that they add up to it, and that the beginning of the steps drives its beginning.
func checkDriven(t *testing.T, name string, g impl.Graph, roads []int64) {
	t.Helper()
	steps := impl.Guide(g, roads)
	s, all := g.Roads[roads[0]].From, []int64{}
	checkFollow(t, name, g, s, steps, true, roads...)
	for i, step := range steps {
		driven := roads[len(all):min(len(roads), len(all)+int(step.Roads))]
		length := int64(0)
		for _, road := range driven {
			length += g.Roads[road].Length
		}
		if int64(len(driven)) != step.Roads || length != step.Length || step.Name != g.Roads[driven[0]].Name || impl.Say(step) == "" {
			t.Error(name+": step", i, "of", short(steps), "is not as", short(driven))
			return
		}
		all = append(all, driven...)
		if i < 3 || i == len(steps)/2 {
			checkFollow(t, name+", the first steps", g, s, steps[:i+1], true, all...)
		}
	}
	checkNumbers(t, name+": all steps", all, roads...)
}

// someCalled is a graph in which many Roads have one name and many lie in one wind.
func someCalled(r *rand.Rand, places int, roads int) impl.Graph {
	g := someStreets(r, places, roads)
	names := []string{"", "A", "B", "\xff"}[:1+r.Intn(4)]
	for i := range g.Roads {
		g.Roads[i].Name = pick(r, names...)
	}
	return g
}

// someSteps are those of a path in a graph, or some that often lead nowhere; now and then one of them can't be.
func someSteps(r *rand.Rand, g impl.Graph, path []int64) []impl.Turning {
	steps := impl.Guide(g, path)
	if r.Intn(3) == 0 {
		steps = steps[:r.Intn(len(steps)+1)]
		for range r.Intn(4) {
			wind := pick(r, int64(0), 0, 2, 4, 6, 8, r.Int63n(9))
			if len(steps) == 0 {
				wind = 9
			}
			steps = append(steps, turning(wind, r.Int63n(5)/3, pick(r, "", "A"), 1+r.Int63n(4)/2, r.Int63n(5)))
		}
	}
	if len(steps) == 0 || r.Intn(2) == 0 {
		return steps
	}
	step := &steps[r.Intn(len(steps))]
	switch r.Intn(8) {
	case 0:
		step.Wind = pick(r, append(strange(), 0, 8, 9, 10)...)
	case 1:
		step.Which = pick(r, strange()...)
	case 2:
		step.Roads = pick(r, append(strange(), 0, 5, impl.MaxRoads, impl.MaxRoads+1)...)
	case 3:
		step.Length, step.Name = pick(r, strange()...), "B"
	case 4:
		step.Roads--
	case 5:
		step.Roads++
	case 6:
		step.Which++
	case 7:
		step.Wind = r.Int63n(10)
	}
	return steps
}
