package tests

import (
	"runtime"
	"slices"
	"sync"
	"testing"

	"loop.example/g00024/impl"
)

// Promise 19, of chapter 17: every function answers at every argument and none panics; answers are new memory; arguments stay.

type graphAndSteps struct {
	Graph impl.Graph
	Steps []impl.Turning
	From  int64
	After int64
	To    int64
}

type graphAndDrive struct {
	Graph impl.Graph
	Roads []int64
}

func askAhead(a graphAndRoad) int64 { return impl.Ahead(a.Graph, a.Road) }

func askGuide(a graphAndDrive) []impl.Turning { return impl.Guide(a.Graph, a.Roads) }

func askFollow(a graphAndSteps) []int64 {
	roads, _ := impl.Follow(a.Graph, a.From, a.Steps)
	return roads
}

func askAgain(a graphAndSteps) impl.Path {
	return impl.Again(a.Graph, a.Steps, a.From, a.After, a.To)
}

func TestGraphsStayAndInstructionsAreNew(t *testing.T) {
	tell := numbers(217)
	steps, driven, ways := 0, 0, 0
	for _, g := range append(streetsToGuard(), triangle(), branch(2, 0, 1, 8, 2, 2), called(branch(5, 0, 1, 8, 2, 2), "A", "B", "A")) {
		last := int64(len(g.Roads)) - 1
		for _, road := range []int64{-1, 0, 3, last, last + 1} {
			checkMemory(t, "Ahead", graphAndRoad{g, road}, askAhead)
		}
		path := []int64{0, 1}
		if impl.GraphOk(g) {
			path = drives(tell, g, 12)
		}
		for _, roads := range [][]int64{nil, {}, {-1}, {last + 1}, {0, 0}, path} {
			checkMemory(t, "Guide", graphAndDrive{g, roads}, askGuide)
		}
		all := impl.Guide(g, path)
		steps += count(len(all) > 2)
		for _, list := range [][]impl.Turning{nil, {}, all, all[:len(all)/2], append(slices.Clone(all), take(9, 0, 1)), {take(9, 0, impl.MaxRoads)}, {take(9, 0, 0)}, {take(0, 0, 1)}} {
			for _, s := range []int64{-1, 0, startOfAny(g, path), int64(len(g.Places))} {
				a := graphAndSteps{g, list, s, 3, int64(len(g.Places)) / 2}
				checkMemory(t, "Follow", a, askFollow)
				checkMemory(t, "Again", a, askAgain)
				driven += count(len(askFollow(a)) > 2)
				ways += count(len(askAgain(a).Roads) > 1)
			}
		}
	}
	if steps < 50 || driven < 200 || ways < 50 {
		t.Error("too few of a kind:", steps, driven, ways)
	}
}

// startOfAny asks a graph that may be none.
func startOfAny(g impl.Graph, path []int64) int64 {
	if len(path) == 0 || !numbered(path[0], len(g.Roads)) {
		return 0
	}
	return g.Roads[path[0]].From
}

// What was told before stays as it was, whatever is done to the arguments and to what is told later.
func TestInstructionsDoNotFollow(t *testing.T) {
	g, roads := called(lane(5, 10), "A", "A", "B", "B", "A", "A"), []int64{0, 2, 4, 6}
	given := impl.Guide(g, roads)
	type told struct {
		steps []impl.Turning
		roads []int64
		again impl.Path
	}
	ask := func() told {
		driven, _ := impl.Follow(g, 0, given)
		return told{impl.Guide(g, roads), driven, impl.Again(g, given, 0, 2, 0)}
	}
	first := ask()
	later := ask()
	clear(later.steps)
	clear(later.roads)
	clear(later.again.Roads)
	_ = append(later.steps[:1], take(1, 1, 1))
	_ = append(later.roads[:1], 7)
	clear(given)
	clear(roads)
	clear(g.Places)
	clear(g.Roads)
	want := []impl.Turning{turning(9, 0, "A", 1, 10001), turning(0, 0, "B", 1, 10102), turning(0, 0, "A", 1, 10203), turning(0, 0, "", 1, 10304)}
	if !slices.Equal(first.steps, want) {
		t.Error("Guide", first.steps)
	}
	checkNumbers(t, "Follow", first.roads, 0, 2, 4, 6)
	checkPath(t, "Again", first.again, impl.Path{Found: true, Roads: []int64{3, 1}, Time: 20, Length: 20000 + 201 + 100})
}

func TestInstructionsOfEveryKindAreAnswered(t *testing.T) {
	tell := numbers(218)
	good, well, partly := map[bool]int{}, 0, 0
	texts := strangeTexts()[:12]
	for range 20000 {
		g := impl.Graph{Places: make([]impl.Spot, tell.Intn(4)), Roads: make([]impl.Road, tell.Intn(5)), Bans: make([]impl.Ban, tell.Intn(6)/4)}
		number := func() int64 {
			if tell.Intn(70) > 0 {
				return tell.Int63n(3)
			}
			return pick(tell, strange()...)
		}
		for i := range g.Places {
			g.Places[i] = impl.Spot{Id: max(int64(i+1), number()), Point: at(number(), number())}
		}
		for i := range g.Roads {
			g.Roads[i] = impl.Road{From: number(), To: number(), Way: 1 + number(), Time: 1 + number(), Length: number(), Name: pick(tell, "", "\xff")}
		}
		for i := range g.Bans {
			g.Bans[i] = impl.Ban{From: number(), To: number()}
		}
		roads := []int64{number(), number(), number()}[:tell.Intn(4)]
		steps := []impl.Turning{
			{Wind: 9, Which: number() / 2, Roads: 1 + number()/2, Name: pick(tell, texts...), Length: number()},
			{Wind: pick(tell, 8, 8, number()), Which: number() / 2, Roads: 1 + number()/2},
			{Wind: pick(tell, 0, 8, number()), Which: number() / 2, Roads: number()},
		}[:tell.Intn(4)]
		s, after, to := number(), number(), number()
		ok := graphCanBe(g)
		good[ok]++
		driven, done := followOf(g, s, steps)
		well += count(done && len(driven) > 1)
		partly += count(!done && len(driven) > 0)
		checkAhead(t, "strange", g, s, aheadOf(g, s))
		checkGuide(t, "strange", g, roads, guideOf(g, roads)...)
		checkFollow(t, "strange", g, s, steps, done, driven...)
		checkAgain(t, "strange", g, steps, s, after, to, againOf(g, steps, s, after, to))
		if t.Failed() {
			t.Fatal(g, roads, steps, s, after, to)
		}
	}
	if good[true] < 4000 || good[false] < 4000 || well < 100 || partly < 300 {
		t.Error("too few of a kind:", good, well, partly)
	}
	for _, g := range []impl.Graph{{Places: make([]impl.Spot, 1<<20)}, {Roads: make([]impl.Road, 1<<20)}, {Bans: make([]impl.Ban, 1<<20)}} {
		checkAhead(t, "a great list", g, 0, -1)
		checkGuide(t, "a great list", g, []int64{0})
		checkFollow(t, "a great list", g, 0, []impl.Turning{take(9, 0, 1)}, false)
		checkAgain(t, "a great list", g, nil, 0, 0, 0, impl.Path{})
	}
	checkGuide(t, "a great path", crossroads(), make([]int64, 1<<20))
	checkFollow(t, "many steps", crossroads(), 0, make([]impl.Turning, 1<<20), false)
}

func TestEveryStepIsSaid(t *testing.T) {
	tell := numbers(219)
	said, texts := 0, strangeTexts()[:16]
	for range 20000 {
		number := func() int64 {
			if tell.Intn(6) > 0 {
				return tell.Int63n(12)
			}
			return pick(tell, append(strange(), 7999, 8000, 8001)...)
		}
		step := impl.Turning{Wind: number(), Which: number(), Name: pick(tell, texts...), Roads: number(), Length: number()}
		checkSay(t, step, sayOf(step))
		said += count(sayOf(step) != "")
	}
	if said < 5000 {
		t.Error("too few are said:", said)
	}
}

func TestTheSameInstructionsAreAnsweredAgain(t *testing.T) {
	tell := numbers(220)
	for range 300 {
		g := someCalled(tell, 1+tell.Intn(8), 1+tell.Intn(40))
		path := drives(tell, g, 30)
		s := g.Roads[path[0]].From
		ahead, steps := impl.Ahead(g, path[0]), impl.Guide(g, path)
		again := impl.Again(g, steps, s, 3, 0)
		impl.Guide(triangle(), rounds(20))
		impl.Follow(crossroads(), 0, []impl.Turning{take(9, 9, 9)})
		for range 3 {
			checkAhead(t, "again", g, path[0], ahead)
			checkGuide(t, "again", g, path, steps...)
			checkFollow(t, "again", g, s, steps, true, path...)
			checkAgain(t, "again", g, steps, s, 3, 0, again)
		}
	}
}

// Many ask at once, some of them what can't be followed.
func TestInstructionsAreTheSameHoweverTheyRun(t *testing.T) {
	defer runtime.GOMAXPROCS(runtime.GOMAXPROCS(0))
	tell := numbers(221)
	g := withBans(someCalled(tell, 200, 1500))
	g.Bans = turnsIn(g, func(int64, int64) bool { return tell.Intn(8) == 0 })
	turns, path := endless(g), []int64{7}
	for len(path) < 2000 {
		path = append(path, pick(tell, turns[path[len(path)-1]]...))
	}
	s, steps := g.Roads[path[0]].From, guideOf(g, path[:40])
	ahead := aheadIn(g, path[5])
	for _, processors := range []int{1, 2, 8} {
		runtime.GOMAXPROCS(processors)
		var open sync.WaitGroup
		for range 8 {
			open.Go(func() {
				for range 3 {
					checkAhead(t, "side by side", g, path[5], ahead)
					checkGuide(t, "side by side", g, path[:40], steps...)
					checkDriven(t, "side by side", g, path)
					checkFollow(t, "side by side", g, s, append(slices.Clone(steps), take(9, 0, 1)), false, path[:40]...)
					checkAgain(t, "side by side", g, steps, s, 40, g.Roads[path[39]].To, impl.Path{Found: true})
					checkSay(t, steps[0], sayOf(steps[0]))
				}
			})
		}
		open.Wait()
	}
}
