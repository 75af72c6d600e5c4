package tests

import (
	"slices"
	"testing"

	"loop.example/g00024/impl"
)

// Promise 13, on small graphs, drawn: no match costs less than the one that is told, nor as much with lesser numbers.

// checkLeast holds a match against all ways to choose, by what MatchCost says of them.
func checkLeast(t *testing.T, g impl.Graph, trace []impl.Point, c chain) {
	t.Helper()
	told := impl.Match(g, trace)
	var first []int64
	least := int64(-1)
	c.eachPick(func(picks []int64) {
		cost := impl.MatchCost(g, trace, picks)
		if want := c.costOf(picks); cost != want {
			t.Error(picks, "cost", cost, "and not", want)
		}
		if cost >= 0 && (least < 0 || cost < least) {
			first, least = picks, cost
		}
	})
	if told.Found != (least >= 0) {
		t.Fatal("found:", told.Found, "but the least costs", least)
	}
	checkMatched(t, "drawn", told, c.told(first, least))
	checkMatched(t, "from the end", told, c.told(c.leastFromTheEnd()))
}

// kinds counts what was drawn.
type kinds struct {
	found, none, tied, byNumbers, byFirst, more, back, below int
}

// note looks at what the matches of a chain are like.
func (k *kinds) note(g impl.Graph, trace []impl.Point, c chain) {
	best, least := c.least()
	if least < 0 {
		k.none++
		return
	}
	k.found++
	roads := func(picks []int64) []int64 { return c.told(picks, 0).Roads }
	c.eachPick(func(picks []int64) {
		if c.costOf(picks) != least || slices.Equal(picks, best) {
			return
		}
		k.tied++
		// Another order would choose another one.
		k.byNumbers += count(slices.Compare(roads(picks), roads(best)) < 0)
		last, other := slices.Clone(best), slices.Clone(picks)
		slices.Reverse(last)
		slices.Reverse(other)
		k.byFirst += count(slices.Compare(other, last) < 0)
	})
	for i := 1; i < len(best); i++ {
		from, to := c.cands[i-1][best[i-1]], c.cands[i][best[i]]
		if from.Road == to.Road {
			k.back += count(to.At < from.At)
			continue
		}
		k.more += count(g.Roads[from.Road].To != g.Roads[to.Road].From)
		k.below += count(g.Roads[from.Road].Length < from.At)
	}
}

func (k *kinds) check(t *testing.T, least kinds) {
	t.Helper()
	if k.found < least.found || k.none < least.none || k.tied < least.tied || k.byNumbers < least.byNumbers || k.byFirst < least.byFirst ||
		k.more < least.more || k.back < least.back || k.below < least.below {
		t.Errorf("too few of a kind: %+v", *k)
	}
}

// On a small place squares and ways are of a size, so that many matches cost the same.
func TestMatchesOfSmallGraphs(t *testing.T) {
	tell := numbers(152)
	var k kinds
	for range 24000 {
		wide := pick(tell, int64(2), 3, 5, 60, 200)
		g := someLanes(tell, wide, 1+tell.Intn(5), 1+tell.Intn(6))
		trace := someRow(tell, 1+tell.Intn(3), wide)
		c, ok := chainOf(g, trace, stagesThrough)
		if !ok {
			t.Fatal("no chain of", g, trace)
		}
		checkLeast(t, g, trace, c)
		k.note(g, trace, c)
		if t.Failed() {
			t.Fatal(g, trace)
		}
	}
	k.check(t, kinds{found: 10000, none: 5000, tied: 10000, byNumbers: 20, byFirst: 60, more: 80, back: 25, below: 150})
}

// Where one can drive far, in traces that are driven, or nearly so.
func TestMatchesOfDrivenTraces(t *testing.T) {
	tell := numbers(153)
	var k kinds
	for range 3000 {
		g := asFar(someLanes(tell, pick(tell, int64(150), 300, 2000), 3+tell.Intn(6), 6+tell.Intn(12)))
		roads := []int64{tell.Int63n(int64(len(g.Roads)))}
		for range 8 {
			if on := impl.TurnsOf(g, roads[len(roads)-1]); len(on) > 0 {
				roads = append(roads, pick(tell, on...))
			}
		}
		// Some of them, in order: between those others are driven.
		for len(roads) > 3 {
			i := tell.Intn(len(roads))
			roads = slices.Delete(roads, i, i+1)
		}
		if tell.Intn(4) == 0 {
			roads = append(roads[:1], roads[0], roads[0])
		}
		trace := onRoads(tell, g, roads)
		if tell.Intn(3) == 0 {
			slices.Reverse(trace)
		}
		c, ok := chainOf(g, trace, stagesGrown)
		if !ok {
			t.Fatal("no chain of", g, trace)
		}
		checkLeast(t, g, trace, c)
		k.note(g, trace, c)
		if t.Failed() {
			t.Fatal(g, trace)
		}
	}
	k.check(t, kinds{found: 2000, none: 20, tied: 2000, byFirst: 20, more: 300, back: 60})
}

// Longer traces have too many matches to go through: these are reckoned from their ends.
func TestMatchesOfLongTraces(t *testing.T) {
	tell := numbers(154)
	found := 0
	for range 1000 {
		wide := pick(tell, int64(3), 60, 100, 300)
		g := bothWays(someLanes(tell, wide, 2+tell.Intn(4), 3+tell.Intn(8)))
		var roads []int64
		for range 4 + tell.Intn(37) {
			roads = append(roads, tell.Int63n(int64(len(g.Roads))))
		}
		trace := onRoads(tell, g, roads)
		c, ok := chainOf(g, trace, stagesGrown)
		if !ok {
			t.Fatal("no chain of", g, trace)
		}
		picks, least := c.leastFromTheEnd()
		told := impl.Match(g, trace)
		checkMatched(t, "drawn", told, c.told(picks, least))
		if told.Found {
			found++
			checkCost(t, "drawn", g, trace, told.Cost, picks...)
		}
		for range 5 {
			var other []int64
			for _, cands := range c.cands {
				other = append(other, tell.Int63n(int64(len(cands))))
			}
			checkCost(t, "drawn", g, trace, c.costOf(other), other...)
		}
		if t.Failed() {
			t.Fatal(g, trace)
		}
	}
	if found < 500 || found > 980 {
		t.Error("too few of a kind:", found)
	}
}

// The two ways in which the ways between Roads are reckoned here must say the same.
func TestStagesAreReckonedAlike(t *testing.T) {
	tell := numbers(155)
	far := 0
	for range 2000 {
		g := someLanes(tell, 30, 1+tell.Intn(5), 1+tell.Intn(6))
		for first := range int64(len(g.Roads)) {
			a, b := stagesThrough(g, first), stagesGrown(g, first)
			if !slices.Equal(a, b) {
				t.Fatal(g, first, a, b)
			}
			for _, s := range a {
				far += count(s.roads > 1)
			}
		}
	}
	if far < 500 {
		t.Error("too few are far:", far)
	}
}
