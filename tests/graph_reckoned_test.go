package tests

import (
	"regexp"
	"slices"

	"loop.example/g00024/impl"
)

// Chapter 9 reckoned once more from its words: each Road is held against every other, and each node looked for from the first.

func numbered(n int64, count int) bool { return 0 <= n && n < int64(count) }

func graphCanBe(g impl.Graph) bool {
	ok := len(g.Roads) <= 8000 && len(g.Bans) <= 2000 && idsCanBe(len(g.Places), 5000, func(i int) int64 { return g.Places[i].Id })
	for _, s := range g.Places {
		ok = ok && canBe(s.Point)
	}
	for _, r := range g.Roads {
		ok = ok && numbered(r.From, len(g.Places)) && numbered(r.To, len(g.Places)) && idCanBe(r.Way)
		ok = ok && r.Time >= 1 && r.Time <= 1000000 && r.Length >= 0 && r.Length <= 1000000000
	}
	for i, b := range g.Bans {
		ok = ok && numbered(b.From, len(g.Roads)) && numbered(b.To, len(g.Roads)) && g.Roads[b.From].To == g.Roads[b.To].From
		if i > 0 {
			a := g.Bans[i-1]
			ok = ok && (a.From < b.From || a.From == b.From && a.To < b.To)
		}
	}
	return ok
}

func valueOf(ts []impl.Tag, key string) string {
	i := slices.IndexFunc(ts, func(t impl.Tag) bool { return t.Key == key })
	if i < 0 {
		return ""
	}
	return ts[i].Value
}

var limitForm = regexp.MustCompile(`\A[0-9]{1,10}\z`)

func speedOf(ts []impl.Tag, kind int64) int64 {
	highway, access, limit := valueOf(ts, "highway"), valueOf(ts, "access"), valueOf(ts, "maxspeed")
	speed := int64(0)
	switch {
	case highway == "" || access == "no" || access == "private":
		return 0
	case kind == 1:
		speed = map[string]int64{"motorway": 30, "main": 20, "street": 10}[highway]
		if limitForm.MatchString(limit) {
			if n := numberIn(limit); n >= 1 && n <= 30 && speed > n {
				speed = n
			}
		}
	case kind == 2 && highway != "motorway":
		speed = 1
	}
	return speed
}

func onewayOf(ts []impl.Tag, kind int64) int64 {
	oneway, ring := valueOf(ts, "oneway"), valueOf(ts, "junction") == "ring"
	along := map[string]int64{"yes": 1, "-1": -1}[oneway]
	if ring && oneway == "" {
		along = 1
	}
	if kind != 1 {
		return 0
	}
	return along
}

// distanceOf halves its way to the least d for which the words hold.
func distanceOf(a impl.Point, b impl.Point) int64 {
	dx, dy := b.X-a.X, b.Y-a.Y
	low, high := int64(0), int64(30000000)
	for low < high {
		if d := (low + high) / 2; (2*d+1)*(2*d+1) > 4*(dx*dx+dy*dy) {
			high = d
		} else {
			low = d + 1
		}
	}
	return low
}

// timeOf goes up from nothing, in great steps first.
func timeOf(length int64, speed int64) int64 {
	time := int64(1)
	for step := int64(1 << 30); step > 0; step /= 2 {
		for (time+step-1)*speed < length {
			time += step
		}
	}
	return time
}

func graphOf(m impl.Map, kind int64) impl.Graph {
	var g impl.Graph
	if !mapCanBe(m) || kind != 1 && kind != 2 {
		return g
	}
	for _, n := range m.Nodes {
		if slices.ContainsFunc(m.Ways, func(w impl.Way) bool { return speedOf(w.Tags, kind) > 0 && slices.Contains(w.Nodes, n.Id) }) {
			g.Places = append(g.Places, impl.Spot{Id: n.Id, Point: n.Point})
		}
	}
	place := func(id int64) int64 {
		return int64(slices.IndexFunc(g.Places, func(s impl.Spot) bool { return s.Id == id }))
	}
	for _, w := range m.Ways {
		speed, oneway := speedOf(w.Tags, kind), onewayOf(w.Tags, kind)
		for i := 1; i < len(w.Nodes) && speed > 0; i++ {
			a, b := w.Nodes[i-1], w.Nodes[i]
			length := distanceOf(nodeWith(m, a).Point, nodeWith(m, b).Point)
			for _, ends := range [][]int64{{1, a, b}, {-1, b, a}} {
				if oneway != -ends[0] {
					g.Roads = append(g.Roads, impl.Road{From: place(ends[1]), To: place(ends[2]), Way: w.Id, Time: timeOf(length, speed), Length: length, Name: valueOf(w.Tags, "name")})
				}
			}
		}
	}
	if !graphCanBe(g) {
		return impl.Graph{}
	}
	return g
}

// turnsIn tells every turn of a graph that can be, forbidden or not, for which it is asked, ascending.
func turnsIn(g impl.Graph, ask func(from int64, to int64) bool) []impl.Ban {
	var turns []impl.Ban
	for from, a := range g.Roads {
		for to, b := range g.Roads {
			if a.To == b.From && ask(int64(from), int64(to)) {
				turns = append(turns, ban(int64(from), int64(to)))
			}
		}
	}
	return turns
}

func banned(g impl.Graph, from int64, to int64) bool { return slices.Contains(g.Bans, ban(from, to)) }

// bannedBy is the graph with these Bans, or the zero value when they are too many.
func bannedBy(g impl.Graph, bans []impl.Ban) impl.Graph {
	if len(bans) > 2000 {
		return impl.Graph{}
	}
	return withBans(g, bans...)
}

func forbidOf(g impl.Graph, lists [][]int64) impl.Graph {
	if !graphCanBe(g) || len(lists) > 2000 {
		return impl.Graph{}
	}
	return bannedBy(g, turnsIn(g, func(from int64, to int64) bool {
		return banned(g, from, to) || slices.ContainsFunc(lists, func(l []int64) bool {
			return slices.Equal(l, []int64{g.Roads[from].Way, g.Places[g.Roads[from].To].Id, g.Roads[to].Way})
		})
	}))
}

func leadsBack(g impl.Graph, from int64, to int64) bool {
	a, b := g.Roads[from], g.Roads[to]
	return b.From == a.To && b.To == a.From && a.Way == b.Way
}

func noBackOf(g impl.Graph) impl.Graph {
	if !graphCanBe(g) {
		return impl.Graph{}
	}
	return bannedBy(g, turnsIn(g, func(from int64, to int64) bool {
		other := slices.ContainsFunc(turnsIn(g, func(a int64, b int64) bool { return a == from }), func(b impl.Ban) bool { return !leadsBack(g, from, b.To) })
		return banned(g, from, to) || leadsBack(g, from, to) && other
	}))
}

func turnsOf(g impl.Graph, road int64) []int64 {
	var turns []int64
	if !graphCanBe(g) || !numbered(road, len(g.Roads)) {
		return nil
	}
	for to, r := range g.Roads {
		if r.From == g.Roads[road].To && !banned(g, road, int64(to)) {
			turns = append(turns, int64(to))
		}
	}
	return turns
}
