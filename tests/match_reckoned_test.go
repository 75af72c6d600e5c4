package tests

import (
	"slices"

	"loop.example/g00024/impl"
)

// Chapter 13 reckoned once more from its words: ways from Road to Road are gone through one by one, or made longer as long as one is
// better; matches are gone through, or reckoned from their ends.

func candidatesOf(g impl.Graph, p impl.Point) []impl.Cand {
	var cands []impl.Cand
	if !graphCanBe(g) || !canBe(p) {
		return cands
	}
	var all []impl.Cand
	for i, r := range g.Roads {
		a := g.Places[r.From].Point
		q := nearestByWords(a, g.Places[r.To].Point, p)
		all = append(all, cand(int64(i), distanceOf(p, q), distanceOf(a, q)))
	}
	for far := range int64(61) {
		for _, c := range all {
			if c.Far == far && len(cands) < 6 {
				cands = append(cands, c)
			}
		}
	}
	return cands
}

// stage is a way ahead of a Road: its length, and how many Roads it has.
type stage struct {
	found  bool
	length int64
	roads  int64
}

func (s stage) betterThan(o stage) bool {
	return s.found && (!o.found || s.length < o.length || s.length == o.length && s.roads < o.roads)
}

func mayFollow(g impl.Graph, from int64, to int64) bool {
	return g.Roads[from].To == g.Roads[to].From && !banned(g, from, to)
}

// stagesThrough goes through all ways from one Road on that have no Road twice: with one twice, what lies between them is for nothing.
func stagesThrough(g impl.Graph, first int64) []stage {
	best := make([]stage, len(g.Roads))
	var goOn func(last int64, used []int64, length int64)
	goOn = func(last int64, used []int64, length int64) {
		here := stage{true, length, int64(len(used))}
		for next, r := range g.Roads {
			if !mayFollow(g, last, int64(next)) {
				continue
			}
			if here.betterThan(best[next]) {
				best[next] = here
			}
			if !slices.Contains(used, int64(next)) {
				goOn(int64(next), append(slices.Clone(used), int64(next)), length+r.Length)
			}
		}
	}
	goOn(first, nil, 0)
	return best
}

// stagesGrown makes ways longer, for graphs with more of them than can be gone through.
func stagesGrown(g impl.Graph, first int64) []stage {
	best := make([]stage, len(g.Roads))
	forbidden := map[impl.Ban]bool{}
	for _, b := range g.Bans {
		forbidden[b] = true
	}
	begins := make([][]int64, len(g.Places))
	for i, r := range g.Roads {
		begins[r.From] = append(begins[r.From], int64(i))
	}
	var waiting []int64
	follow := func(road int64, here stage) {
		for _, next := range begins[g.Roads[road].To] {
			if here.betterThan(best[next]) && !forbidden[ban(road, next)] {
				best[next] = here
				waiting = append(waiting, next)
			}
		}
	}
	follow(first, stage{found: true})
	for len(waiting) > 0 {
		road := waiting[0]
		waiting = waiting[1:]
		follow(road, stage{true, best[road].length + g.Roads[road].Length, best[road].roads + 1})
	}
	return best
}

// stepOf is what two candidates cost one behind the other, without their Fars; -1 when they can't be so.
func stepOf(g impl.Graph, stages []stage, from impl.Cand, to impl.Cand, straight int64) int64 {
	driven, more := to.At-from.At, int64(0)
	if from.Road != to.Road || to.At < from.At {
		s := stages[to.Road]
		if !s.found {
			return -1
		}
		driven, more = g.Roads[from.Road].Length-from.At+s.length+to.At, s.roads+1
	}
	return max(driven-straight, straight-driven) + 3*more
}

// chain is a trace with its candidates, and what they cost one behind the other: by point, by the one, by the next.
type chain struct {
	cands [][]impl.Cand
	steps [][][]int64
}

// chainOf answers false when something can't be; stages are reckoned of each Road once.
func chainOf(g impl.Graph, trace []impl.Point, stages func(g impl.Graph, first int64) []stage) (chain, bool) {
	var c chain
	known := map[int64][]stage{}
	if !graphCanBe(g) || len(trace) == 0 || len(trace) > 40 || slices.ContainsFunc(trace, func(p impl.Point) bool { return !canBe(p) }) {
		return c, false
	}
	for i, p := range trace {
		c.cands = append(c.cands, candidatesOf(g, p))
		if i == 0 {
			continue
		}
		var table [][]int64
		for _, from := range c.cands[i-1] {
			var row []int64
			if known[from.Road] == nil {
				known[from.Road] = stages(g, from.Road)
			}
			for _, to := range c.cands[i] {
				row = append(row, stepOf(g, known[from.Road], from, to, distanceOf(trace[i-1], p)))
			}
			table = append(table, row)
		}
		c.steps = append(c.steps, table)
	}
	return c, true
}

func (c chain) costOf(picks []int64) int64 {
	if len(picks) != len(c.cands) {
		return -1
	}
	cost := int64(0)
	for i, n := range picks {
		if !numbered(n, len(c.cands[i])) {
			return -1
		}
		far := c.cands[i][n].Far
		cost += far * far
	}
	for i, table := range c.steps {
		step := table[picks[i]][picks[i+1]]
		if step < 0 {
			return -1
		}
		cost += step
	}
	return cost
}

// eachPick shows all ways to choose, those with the least numbers first.
func (c chain) eachPick(show func(picks []int64)) {
	var goOn func(picks []int64)
	goOn = func(picks []int64) {
		if len(picks) == len(c.cands) {
			show(picks)
			return
		}
		for n := range c.cands[len(picks)] {
			goOn(append(slices.Clone(picks), int64(n)))
		}
	}
	goOn(nil)
}

// least goes through all.
func (c chain) least() ([]int64, int64) {
	best, least := []int64(nil), int64(-1)
	c.eachPick(func(picks []int64) {
		if cost := c.costOf(picks); cost >= 0 && (least < 0 || cost < least) {
			best, least = picks, cost
		}
	})
	return best, least
}

// leastFromTheEnd reckons for each candidate, from the last point on, what the least of what comes behind it costs.
func (c chain) leastFromTheEnd() ([]int64, int64) {
	last := len(c.cands) - 1
	rest, choice := make([][]int64, last+1), make([][]int64, last+1)
	for i := last; i >= 0; i-- {
		for n, one := range c.cands[i] {
			best, next := int64(-1), int64(-1)
			if i == last {
				best = 0
			} else {
				for k, step := range c.steps[i][n] {
					if step >= 0 && rest[i+1][k] >= 0 && (best < 0 || step+rest[i+1][k] < best) {
						best, next = step+rest[i+1][k], int64(k)
					}
				}
			}
			if best >= 0 {
				best += one.Far * one.Far
			}
			rest[i], choice[i] = append(rest[i], best), append(choice[i], next)
		}
	}
	least, first := int64(-1), int64(-1)
	for n, cost := range rest[0] {
		if cost >= 0 && (least < 0 || cost < least) {
			least, first = cost, int64(n)
		}
	}
	if least < 0 {
		return nil, -1
	}
	picks := []int64{first}
	for i := range last {
		picks = append(picks, choice[i][picks[i]])
	}
	return picks, least
}

// told is the match of these picks.
func (c chain) told(picks []int64, cost int64) impl.Matched {
	if cost < 0 {
		return impl.Matched{}
	}
	m := impl.Matched{Found: true, Cost: cost}
	for i, n := range picks {
		m.Roads = append(m.Roads, c.cands[i][n].Road)
	}
	return m
}

func matchOf(g impl.Graph, trace []impl.Point) impl.Matched {
	c, ok := chainOf(g, trace, stagesGrown)
	if !ok {
		return impl.Matched{}
	}
	return c.told(c.leastFromTheEnd())
}

func matchCostOf(g impl.Graph, trace []impl.Point, picks []int64) int64 {
	c, ok := chainOf(g, trace, stagesGrown)
	if !ok {
		return -1
	}
	return c.costOf(picks)
}
