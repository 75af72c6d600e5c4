package tests

import (
	"cmp"
	"slices"

	"loop.example/g00024/impl"
)

// Chapter 12 reckoned once more from its words, over the paths that reckon chapter 10.

func roadsCanBe(g impl.Graph, roads []int64) bool {
	return !slices.ContainsFunc(roads, func(r int64) bool { return !numbered(r, len(g.Roads)) })
}

func wishCanBe(w impl.Wish) bool {
	return w.Most >= 1 && w.Most <= 10 && w.Longer >= 0 && w.Longer <= 1000 && w.Shared >= 0 && w.Shared <= 100
}

// commonOf asks of each Road of the graph whether it is in both lists.
func commonOf(g impl.Graph, a []int64, b []int64) int64 {
	sum := int64(0)
	if !graphCanBe(g) || !roadsCanBe(g, a) || !roadsCanBe(g, b) {
		return 0
	}
	for i, r := range g.Roads {
		if slices.Contains(a, int64(i)) && slices.Contains(b, int64(i)) {
			sum += r.Time
		}
	}
	return sum
}

func loopsOf(g impl.Graph, roads []int64) bool {
	if !graphCanBe(g) || !roadsCanBe(g, roads) || len(roads) == 0 {
		return false
	}
	places := []int64{g.Roads[roads[0]].From}
	for _, r := range roads {
		if slices.Contains(places, g.Roads[r].To) {
			return true
		}
		places = append(places, g.Roads[r].To)
	}
	return false
}

// joinedIn is one path behind another.
func joinedIn(g impl.Graph, a impl.Path, b impl.Path) impl.Path {
	if !a.Found || !b.Found {
		return impl.Path{}
	}
	p := impl.Path{Found: true, Roads: slices.Concat(a.Roads, b.Roads), Time: a.Time + b.Time, Length: a.Length + b.Length}
	if len(a.Roads) > 0 && len(b.Roads) > 0 {
		turn := turnIn(g, a.Roads[len(a.Roads)-1], b.Roads[0])
		if turn < 0 {
			return impl.Path{}
		}
		p.Time += turn
	}
	return p
}

func viaOf(g impl.Graph, s int64, v int64, e int64) impl.Path {
	if !graphCanBe(g) || !placesCanBe(g, s, v, e) {
		return impl.Path{}
	}
	return joinedIn(g, grownTo(g, s)[v], grownTo(g, v)[e])
}

func alternativesOf(g impl.Graph, s int64, e int64, w impl.Wish) []impl.Path {
	if !graphCanBe(g) || !placesCanBe(g, s, e) || !wishCanBe(w) {
		return nil
	}
	there := grownTo(g, s)
	best := there[e]
	if !best.Found {
		return nil
	}
	var vias []impl.Path
	for v := range int64(len(g.Places)) {
		if p := joinedIn(g, there[v], grownTo(g, v)[e]); p.Found && !loopsOf(g, p.Roads) && p.Time <= best.Time*(100+w.Longer)/100 {
			vias = append(vias, p)
		}
	}
	// They stand by place, and those of the same Time stay so.
	slices.SortStableFunc(vias, func(a impl.Path, b impl.Path) int { return cmp.Compare(a.Time, b.Time) })
	told := []impl.Path{best}
	for _, p := range vias {
		alike := slices.ContainsFunc(told, func(q impl.Path) bool {
			return slices.Equal(p.Roads, q.Roads) || commonOf(g, p.Roads, q.Roads) > best.Time*w.Shared/100
		})
		if !alike && int64(len(told)) < w.Most {
			told = append(told, p)
		}
	}
	return told
}
