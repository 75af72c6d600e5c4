package tests

import (
	"slices"
	"strconv"

	"loop.example/g00024/impl"
)

// Chapter 17 reckoned once more from its words: of all Roads each one is asked whether it may follow, and in which wind.

func windFrom(g impl.Graph, road int64, next int64) int64 {
	if g.Roads[next].To == g.Roads[road].From {
		return 8
	}
	a, b := windOfRoad(g, g.Roads[road]), windOfRoad(g, g.Roads[next])
	left := int64(0)
	for a >= 0 && b >= 0 && a != b {
		a = (a + 1) % 8
		left++
	}
	return left
}

// followers are the Roads that may follow in this wind; at the beginning, at place s, road is -1.
func followers(g impl.Graph, s int64, road int64, wind int64) []int64 {
	var list []int64
	for next := range int64(len(g.Roads)) {
		switch {
		case road < 0 && wind == 9 && g.Roads[next].From == s:
			list = append(list, next)
		case road >= 0 && g.Roads[road].To == g.Roads[next].From && windFrom(g, road, next) == wind && !banned(g, road, next):
			list = append(list, next)
		}
	}
	return list
}

func aheadOf(g impl.Graph, road int64) int64 {
	if !graphCanBe(g) || !numbered(road, len(g.Roads)) {
		return -1
	}
	return aheadIn(g, road)
}

// aheadIn is asked of a graph that can be.
func aheadIn(g impl.Graph, road int64) int64 {
	// From the best winds to the worst, of the sides the Road with the lesser number first.
	for _, alike := range [][]int64{{0}, {1, 7}, {2, 6}, {3, 5}, {4}, {8}} {
		var list []int64
		for _, wind := range alike {
			for _, next := range followers(g, 0, road, wind) {
				if g.Roads[next].Name == g.Roads[road].Name {
					list = append(list, next)
				}
			}
		}
		if len(list) > 0 {
			return slices.Min(list)
		}
	}
	return -1
}

func isPath(g impl.Graph, roads []int64) bool {
	if len(roads) == 0 || !graphCanBe(g) || !numbered(roads[0], len(g.Roads)) || !numbered(roads[len(roads)-1], len(g.Roads)) {
		return false
	}
	return pathTimeOf(g, roads, g.Roads[roads[0]].From, g.Roads[roads[len(roads)-1]].To) >= 0
}

func guideOf(g impl.Graph, roads []int64) []impl.Turning {
	if !isPath(g, roads) {
		return nil
	}
	var steps []impl.Turning
	for i, road := range roads {
		last := len(steps) - 1
		if i == 0 {
			steps = append(steps, impl.Turning{Wind: 9, Which: int64(slices.Index(followers(g, g.Roads[road].From, -1, 9), road)), Name: g.Roads[road].Name, Roads: 1, Length: g.Roads[road].Length})
		} else if before := roads[i-1]; aheadIn(g, before) == road {
			steps[last].Roads++
			steps[last].Length += g.Roads[road].Length
		} else {
			wind := windFrom(g, before, road)
			steps = append(steps, impl.Turning{Wind: wind, Which: int64(slices.Index(followers(g, 0, before, wind), road)), Name: g.Roads[road].Name, Roads: 1, Length: g.Roads[road].Length})
		}
	}
	return steps
}

func followOf(g impl.Graph, s int64, steps []impl.Turning) ([]int64, bool) {
	if !graphCanBe(g) || !numbered(s, len(g.Places)) {
		return nil, false
	}
	var driven []int64
	at := int64(-1)
	for _, step := range steps {
		if step.Roads < 1 || step.Roads > 8000 {
			return driven, false
		}
		for i := int64(1); i <= step.Roads; i++ {
			if i > 1 {
				at = aheadIn(g, at)
			} else if list := followers(g, s, at, step.Wind); numbered(step.Which, len(list)) {
				at = list[step.Which]
			} else {
				at = -1
			}
			if at < 0 || len(driven) == 8000 {
				return driven, false
			}
			driven = append(driven, at)
		}
	}
	return driven, true
}

func sayOf(step impl.Turning) string {
	words := map[int64]string{0: "straight", 1: "straight", 2: "left", 3: "left", 4: "back", 5: "right", 6: "right", 7: "straight", 8: "back", 9: "go"}
	word, known := words[step.Wind]
	if !known || step.Which < 0 || step.Which > 8000 || step.Length < 0 {
		return ""
	}
	if step.Which > 0 {
		word += " " + strconv.Itoa(int(step.Which)+1) + "."
	}
	if len(step.Name) > 0 {
		word += " on " + step.Name
	}
	return word + ", " + strconv.Itoa(int(step.Length))
}

// againOf goes through all paths on from there, so that the graph must be a small one.
func againOf(g impl.Graph, steps []impl.Turning, s int64, after int64, t int64) impl.Path {
	driven, ok := followOf(g, s, steps)
	if !ok || after < 0 || !numbered(t, len(g.Places)) {
		return impl.Path{}
	}
	for i, road := range driven {
		if int64(i) < after {
			s = g.Roads[road].To
		}
	}
	return pathsFrom(g, s)[t]
}
