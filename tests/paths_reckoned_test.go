package tests

import (
	"cmp"
	"slices"

	"loop.example/g00024/impl"
)

// Chapter 10 reckoned once more from its words: paths are lists of Roads, gone through one by one, or made longer as long as one is better.

func turnTimeOf(g impl.Graph, from int64, to int64) int64 {
	if !graphCanBe(g) || !numbered(from, len(g.Roads)) || !numbered(to, len(g.Roads)) {
		return -1
	}
	return turnIn(g, from, to)
}

// turnIn is asked of a graph that can be.
func turnIn(g impl.Graph, from int64, to int64) int64 {
	a, b := g.Roads[from], g.Roads[to]
	if a.To != b.From || banned(g, from, to) {
		return -1
	}
	if b.To == a.From {
		return 20
	}
	first, second := windOfRoad(g, a), windOfRoad(g, b)
	if first < 0 || second < 0 {
		return 0
	}
	left := 0
	for first != second {
		first = (first + 1) % 8
		left++
	}
	return []int64{0, 0, 5, 5, 5, 3, 3, 0}[left]
}

func windOfRoad(g impl.Graph, r impl.Road) int64 {
	a, b := g.Places[r.From].Point, g.Places[r.To].Point
	if a == b {
		return -1
	}
	return windByWords(b.X-a.X, b.Y-a.Y)
}

func pathTimeOf(g impl.Graph, roads []int64, s int64, t int64) int64 {
	if !graphCanBe(g) || !numbered(s, len(g.Places)) || !numbered(t, len(g.Places)) {
		return -1
	}
	for _, r := range roads {
		if !numbered(r, len(g.Roads)) {
			return -1
		}
	}
	if len(roads) == 0 {
		return int64(count(s == t)) - 1
	}
	time := int64(0)
	for i, r := range roads {
		time += g.Roads[r].Time
		if i > 0 {
			turn := turnIn(g, roads[i-1], r)
			if turn < 0 {
				return -1
			}
			time += turn
		}
	}
	if g.Roads[roads[0]].From != s || g.Roads[roads[len(roads)-1]].To != t {
		return -1
	}
	return time
}

// worse is above 0 when the second path is the better one, by the stated order.
func worse(a impl.Path, b impl.Path) int {
	return cmp.Or(cmp.Compare(a.Time, b.Time), cmp.Compare(len(a.Roads), len(b.Roads)), slices.Compare(a.Roads, b.Roads))
}

// withRoad is a path with one Road more; false when it is none.
func withRoad(g impl.Graph, p impl.Path, s int64, next int64) (impl.Path, bool) {
	turn := int64(0)
	if n := len(p.Roads); n > 0 {
		turn = turnIn(g, p.Roads[n-1], next)
	} else if g.Roads[next].From != s {
		turn = -1
	}
	r := g.Roads[next]
	return impl.Path{Found: true, Roads: append(slices.Clone(p.Roads), next), Time: p.Time + turn + r.Time, Length: p.Length + r.Length}, turn >= 0
}

// eachPath shows every path from s that has no Road twice: with one twice, what lies between them is time for nothing.
func eachPath(g impl.Graph, s int64, show func(p impl.Path)) {
	var goOn func(p impl.Path)
	goOn = func(p impl.Path) {
		show(p)
		for next := range int64(len(g.Roads)) {
			if slices.Contains(p.Roads, next) {
				continue
			}
			if q, ok := withRoad(g, p, s, next); ok {
				goOn(q)
			}
		}
	}
	goOn(impl.Path{Found: true})
}

// pathsFrom has the best path from s to each place, of all that there are.
func pathsFrom(g impl.Graph, s int64) []impl.Path {
	best := make([]impl.Path, len(g.Places))
	eachPath(g, s, func(p impl.Path) { keepBetter(&best[endOf(g, p, s)], p) })
	return best
}

func keepBetter(best *impl.Path, p impl.Path) {
	if !best.Found || worse(*best, p) > 0 {
		*best = p
	}
}

func endOf(g impl.Graph, p impl.Path, s int64) int64 {
	if len(p.Roads) == 0 {
		return s
	}
	return g.Roads[p.Roads[len(p.Roads)-1]].To
}

// firstTimesOf goes through all paths that begin with each Road.
func firstTimesOf(g impl.Graph, t int64) []int64 {
	times := slices.Repeat([]int64{-1}, len(g.Roads))
	for s := range int64(len(g.Places)) {
		eachPath(g, s, func(p impl.Path) {
			if len(p.Roads) == 0 || endOf(g, p, s) != t {
				return
			}
			if first := p.Roads[0]; times[first] < 0 || p.Time < times[first] {
				times[first] = p.Time
			}
		})
	}
	return times
}

// grownFrom has the best path from s that ends with each Road, for graphs with more paths than can be gone through:
// each is made longer by each Road until none is better than what is known.
func grownFrom(g impl.Graph, s int64) []impl.Path {
	best := make([]impl.Path, len(g.Roads))
	take := func(p impl.Path) bool {
		last := &best[p.Roads[len(p.Roads)-1]]
		better := !last.Found || worse(*last, p) > 0
		if better {
			*last = p
		}
		return better
	}
	for next := range int64(len(g.Roads)) {
		if p, ok := withRoad(g, impl.Path{}, s, next); ok {
			take(p)
		}
	}
	for changed := true; changed; {
		changed = false
		for _, p := range best {
			for next := range int64(len(g.Roads)) {
				if !p.Found {
					break
				}
				if q, ok := withRoad(g, p, s, next); ok && take(q) {
					changed = true
				}
			}
		}
	}
	return best
}

// grownTo has the best path from s to each place out of those.
func grownTo(g impl.Graph, s int64) []impl.Path {
	best := make([]impl.Path, len(g.Places))
	best[s].Found = true
	for _, p := range grownFrom(g, s) {
		if p.Found {
			keepBetter(&best[endOf(g, p, s)], p)
		}
	}
	return best
}
