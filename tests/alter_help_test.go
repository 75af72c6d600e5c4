package tests

import (
	"math/rand"
	"slices"
	"testing"

	"loop.example/g00024/impl"
)

func wish(most int64, longer int64, shared int64) impl.Wish {
	return impl.Wish{Most: most, Longer: longer, Shared: shared}
}

// byMiddles has from place 0 to place 1 for each time a way that takes it, by a place of its own, from 2 on: Roads 0 and 1 by 2, and so on.
func byMiddles(times ...int64) impl.Graph {
	g := onOnePoint(2 + len(times))
	for i, time := range times {
		middle := int64(2 + i)
		g.Roads = append(g.Roads, timed(0, middle, 1), timed(middle, 1, time-1))
	}
	return g
}

// someWish is one that can be.
func someWish(r *rand.Rand) impl.Wish {
	return wish(1+r.Int63n(10), pick(r, int64(0), 50, 100, 300, 1000), pick(r, int64(0), 30, 50, 70, 99, 100))
}

func checkCommon(t *testing.T, name string, g impl.Graph, a []int64, b []int64, want int64) {
	t.Helper()
	if got := impl.Common(g, a, b); got != want {
		t.Error(name, short(a), short(b), "gives", got, "and not", want)
	}
	if got := impl.Common(g, b, a); got != want {
		t.Error(name, short(b), short(a), "gives", got, "and not", want)
	}
}

func checkLoops(t *testing.T, name string, g impl.Graph, want bool, roads ...int64) {
	t.Helper()
	if got := impl.Loops(g, roads); got != want {
		t.Error(name, short(roads), "gives", got)
	}
}

// checkVia wants these Roads, and what they say themselves of their lengths.
func checkVia(t *testing.T, name string, g impl.Graph, s int64, v int64, e int64, time int64, roads ...int64) {
	t.Helper()
	want := impl.Path{Found: true, Roads: roads, Time: time}
	for _, r := range roads {
		want.Length += g.Roads[r].Length
	}
	checkPath(t, name, impl.Via(g, s, v, e), want)
	checkPathTime(t, name, g, roads, s, e, time)
}

func checkNoVia(t *testing.T, name string, g impl.Graph, s int64, v int64, e int64) {
	t.Helper()
	checkPath(t, name, impl.Via(g, s, v, e), impl.Path{})
}

func checkPaths(t *testing.T, name string, got []impl.Path, want []impl.Path) {
	t.Helper()
	if !slices.EqualFunc(got, want, samePath) {
		t.Error(name, "gives", short(got), "and not", short(want))
	}
}

// checkOthers wants paths of these Roads one after the other, which take what PathTime says.
func checkOthers(t *testing.T, name string, g impl.Graph, s int64, e int64, w impl.Wish, want ...[]int64) {
	t.Helper()
	var paths []impl.Path
	for _, roads := range want {
		p := impl.Path{Found: true, Roads: roads, Time: impl.PathTime(g, roads, s, e)}
		for _, r := range roads {
			p.Length += g.Roads[r].Length
		}
		paths = append(paths, p)
	}
	checkPaths(t, name, impl.Alternatives(g, s, e, w), paths)
}

// checkMiddles wants ways of byMiddles, by their numbers.
func checkMiddles(t *testing.T, name string, g impl.Graph, w impl.Wish, want ...int64) {
	t.Helper()
	var roads [][]int64
	for _, way := range want {
		roads = append(roads, []int64{2 * way, 2*way + 1})
	}
	checkOthers(t, name, g, 0, 1, w, roads...)
}

// checkWished holds what is told against what is wished, by what the other functions say.
func checkWished(t *testing.T, g impl.Graph, s int64, e int64, w impl.Wish, told []impl.Path) {
	t.Helper()
	best := impl.BestPath(g, s, e)
	if int64(len(told)) > w.Most || (len(told) > 0) != best.Found {
		t.Fatal(len(told), "are told of", w.Most, best.Found)
	}
	for i, p := range told {
		if i == 0 {
			checkPath(t, "the first", p, best)
			continue
		}
		checkPathTime(t, "another one", g, p.Roads, s, e, p.Time)
		if impl.Loops(g, p.Roads) || p.Time < told[i-1].Time || 100*p.Time > best.Time*(100+w.Longer) {
			t.Error("the one at", i, "loops, or takes too long:", short(p))
		}
		for _, q := range told[:i] {
			if 100*impl.Common(g, p.Roads, q.Roads) > best.Time*w.Shared || slices.Equal(p.Roads, q.Roads) {
				t.Error("the one at", i, "has too much in common with", short(q))
			}
		}
	}
}

// isVia asks whether a path is the Via of one of these places.
func isVia(g impl.Graph, s int64, e int64, p impl.Path, places []int64) bool {
	return slices.ContainsFunc(places, func(v int64) bool { return samePath(impl.Via(g, s, v, e), p) })
}
