package tests

import (
	"cmp"
	"slices"

	"loop.example/g00024/impl"
)

// Chapter 11 reckoned once more from its words, over the paths that reckon chapter 10.

func placesCanBe(g impl.Graph, places ...int64) bool {
	return !slices.ContainsFunc(places, func(p int64) bool { return !numbered(p, len(g.Places)) })
}

// timeIn is what a path takes, or -1.
func timeIn(p impl.Path) int64 {
	if !p.Found {
		return -1
	}
	return p.Time
}

func timesOf(g impl.Graph, from []int64, to []int64) [][]int64 {
	if !graphCanBe(g) || !placesCanBe(g, from...) || !placesCanBe(g, to...) || len(from) > 100 || len(to) > 100 {
		return nil
	}
	var table [][]int64
	for _, s := range from {
		var row []int64
		paths := grownTo(g, s)
		for _, e := range to {
			row = append(row, timeIn(paths[e]))
		}
		table = append(table, row)
	}
	return table
}

func withinOf(g impl.Graph, s int64, limit int64) []impl.Arrival {
	if !graphCanBe(g) || !placesCanBe(g, s) {
		return nil
	}
	var reached []impl.Arrival
	for e, p := range grownTo(g, s) {
		if p.Found && p.Time <= limit {
			reached = append(reached, impl.Arrival{Spot: int64(e), Time: p.Time})
		}
	}
	slices.SortFunc(reached, func(a impl.Arrival, b impl.Arrival) int {
		return cmp.Or(cmp.Compare(a.Time, b.Time), cmp.Compare(a.Spot, b.Spot))
	})
	return reached
}

// slowTime is the least whole number of which a hundred times is at least the Time times the percents, looked for by halves.
func slowTime(time int64, percent int64) int64 {
	low, high := int64(1), int64(1000000)
	for low < high {
		if half := (low + high) / 2; half*100 >= time*percent {
			high = half
		} else {
			low = half + 1
		}
	}
	return low
}

func slowerOf(g impl.Graph, ways []int64, percent int64) impl.Graph {
	if !graphCanBe(g) || percent < 1 || percent > 10000 || len(ways) > 1000 {
		return impl.Graph{}
	}
	g = same(g)
	for i, r := range g.Roads {
		if slices.Contains(ways, r.Way) {
			g.Roads[i].Time = slowTime(r.Time, percent)
		}
	}
	return g
}

func dailyOf(g impl.Graph, hours []int64, s int64, e int64, start int64) impl.Path {
	if !graphCanBe(g) || !placesCanBe(g, s, e) || len(hours) != 24 {
		return impl.Path{}
	}
	hour := -1
	for i, percent := range hours {
		if percent < 1 || percent > 10000 {
			return impl.Path{}
		}
		if first := int64(i) * 3600; first <= start && start <= first+3599 {
			hour = i
		}
	}
	if hour < 0 {
		return impl.Path{}
	}
	g = same(g)
	for i, r := range g.Roads {
		g.Roads[i].Time = slowTime(r.Time, hours[hour])
	}
	return grownTo(g, s)[e]
}

func centerOf(g impl.Graph, among []int64) int64 {
	if !graphCanBe(g) || !placesCanBe(g, among...) || len(among) > 100 {
		return -1
	}
	center, least := int64(-1), int64(-1)
	for _, s := range among {
		sum, paths := int64(0), grownTo(g, s)
		if slices.ContainsFunc(among, func(e int64) bool { return !paths[e].Found }) {
			continue
		}
		for _, e := range among {
			sum += paths[e].Time
		}
		if least < 0 || sum < least {
			center, least = s, sum
		}
	}
	return center
}
