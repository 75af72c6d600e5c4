package tests

import (
	"math/rand"
	"slices"
	"testing"

	"loop.example/g00024/impl"
)

// Promise 17, of graphs that are drawn: paths are gone through one by one, and reckoned once more.

// eachDrive shows every path of 1 to most Roads; Roads may be driven again and again.
func eachDrive(g impl.Graph, most int, show func(roads []int64)) {
	var goOn func(roads []int64)
	goOn = func(roads []int64) {
		if len(roads) > 0 {
			show(roads)
		}
		for next := range int64(len(g.Roads)) {
			if len(roads) < most && (len(roads) == 0 || turnIn(g, roads[len(roads)-1], next) >= 0) {
				goOn(append(slices.Clone(roads), next))
			}
		}
	}
	goOn(nil)
}

func TestAllPathsAreDrivenByTheirSteps(t *testing.T) {
	tell := numbers(211)
	paths, turns, which, long := 0, 0, 0, 0
	for range 250 {
		g := someCalled(tell, 1+tell.Intn(5), 1+tell.Intn(9))
		eachDrive(g, 4, func(roads []int64) {
			steps := impl.Guide(g, roads)
			checkGuide(t, "all paths", g, roads, guideOf(g, roads)...)
			checkDriven(t, "all paths", g, roads)
			for _, step := range steps {
				turns += count(step.Wind != 9)
				which += count(step.Which > 0)
				long += count(step.Roads > 2)
			}
			paths++
		})
		if t.Failed() {
			t.Fatal(g)
		}
	}
	if paths < 20000 || turns < 20000 || which < 5000 || long < 2000 {
		t.Error("too few of a kind:", paths, turns, which, long)
	}
}

// drives are Roads that follow each other by chance, till none may follow any more.
func drives(r *rand.Rand, g impl.Graph, most int) []int64 {
	if len(g.Roads) == 0 {
		return nil
	}
	roads := []int64{r.Int63n(int64(len(g.Roads)))}
	for len(roads) < most {
		turns := impl.TurnsOf(g, roads[len(roads)-1])
		if len(turns) == 0 {
			break
		}
		next := pick(r, turns...)
		if ahead := impl.Ahead(g, roads[len(roads)-1]); ahead >= 0 && r.Intn(3) > 0 {
			next = ahead
		}
		roads = append(roads, next)
	}
	return roads
}

// startOf is where a path begins, or any place.
func startOf(r *rand.Rand, g impl.Graph, path []int64) int64 {
	if len(path) == 0 || r.Intn(20) == 0 {
		return r.Int63n(int64(len(g.Places)))
	}
	return g.Roads[path[0]].From
}

func TestInstructionsAgainstTheWords(t *testing.T) {
	tell := numbers(212)
	well, partly, driven, found := 0, 0, 0, 0
	for range 4000 {
		g := someCalled(tell, 1+tell.Intn(6), tell.Intn(16))
		for range 3 {
			road := tell.Int63n(int64(len(g.Roads)+2)) - 1
			checkAhead(t, "drawn", g, road, aheadOf(g, road))
			path := drives(tell, g, 1+tell.Intn(20))
			steps, s := someSteps(tell, g, path), startOf(tell, g, path)
			roads, ok := followOf(g, s, steps)
			checkFollow(t, "drawn", g, s, steps, ok, roads...)
			well += count(ok && !slices.Equal(roads, path) && len(roads) > 2)
			partly += count(!ok && len(roads) > 1)
			if ok && len(roads) > 0 {
				// What one drives may have fewer steps than those by which it was driven.
				checkGuide(t, "drawn", g, roads, guideOf(g, roads)...)
				checkDriven(t, "drawn", g, roads)
			}
			if len(path) > 0 {
				checkGuide(t, "driven", g, path, guideOf(g, path)...)
				checkDriven(t, "driven", g, path)
				driven += count(len(path) > 10)
				path[tell.Intn(len(path))] = tell.Int63n(int64(len(g.Roads)))
				checkGuide(t, "perhaps none", g, path, guideOf(g, path)...)
			}
		}
		if t.Failed() {
			t.Fatal(g)
		}
	}
	for range 3000 {
		g := someCalled(tell, 2+tell.Intn(3), 5+tell.Intn(4))
		path := drives(tell, g, 4)
		steps, s, after, to := someSteps(tell, g, path), startOf(tell, g, path), tell.Int63n(7)-1, tell.Int63n(int64(len(g.Places)+1))
		p := againOf(g, steps, s, after, to)
		checkAgain(t, "drawn", g, steps, s, after, to, p)
		found += count(len(p.Roads) > 0 && len(steps) > 0 && after > 0)
	}
	if well < 500 || partly < 800 || driven < 1500 || found < 200 {
		t.Error("too few of a kind:", well, partly, driven, found)
	}
}

// The best paths are driven by their steps, and from each place on the way there is a best way on.
func TestBestPathsAreDrivenByTheirSteps(t *testing.T) {
	tell := numbers(213)
	long := 0
	for range 1200 {
		g := impl.NoBack(someCalled(tell, 3+tell.Intn(9), 4+tell.Intn(30)))
		s, to := tell.Int63n(int64(len(g.Places))), tell.Int63n(int64(len(g.Places)))
		p := impl.BestPath(g, s, to)
		if len(p.Roads) == 0 {
			continue
		}
		checkDriven(t, "the best path", g, p.Roads)
		steps := impl.Guide(g, p.Roads)
		for after := range int64(len(p.Roads) + 2) {
			here := s
			if after > 0 {
				here = g.Roads[p.Roads[min(int(after), len(p.Roads))-1]].To
			}
			end := tell.Int63n(int64(len(g.Places)))
			checkAgain(t, "on from there", g, steps, s, after, end, grownTo(g, here)[end])
		}
		long += count(len(p.Roads) > 2)
	}
	if long < 100 {
		t.Error("too few long paths:", long)
	}
}

// Graphs of maps: names of streets, and turning back forbidden.
func TestInstructionsOnMaps(t *testing.T) {
	tell := numbers(214)
	paths, named := 0, 0
	for range 400 {
		m := someRoadMap(tell)
		for kind := range int64(3) {
			g := impl.NoBack(impl.MakeGraph(m, kind))
			for s := range int64(len(g.Places)) {
				p := impl.BestPath(g, s, tell.Int63n(int64(len(g.Places))))
				if len(p.Roads) == 0 {
					continue
				}
				checkGuide(t, "on a map", g, p.Roads, guideOf(g, p.Roads)...)
				checkDriven(t, "on a map", g, p.Roads)
				paths++
				named += count(g.Roads[p.Roads[0]].Name != "")
			}
		}
	}
	if paths < 400 || named < 100 {
		t.Error("too few of a kind:", paths, named)
	}
}
