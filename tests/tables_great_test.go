package tests

import (
	"slices"
	"testing"

	"loop.example/g00024/impl"
)

// Promises 11 and 12, of graphs as great as may be: they are answered, and in a time that a test can wait for.

// checkGreat asks for a table of MaxTable by MaxTable places, and holds some of its rows against Reach.
func checkGreat(t *testing.T, name string, g impl.Graph, from []int64, to []int64) {
	t.Helper()
	table := impl.Times(g, from, to)
	if len(table) != len(from) || len(from) != impl.MaxTable || len(to) != impl.MaxTable {
		t.Fatal(name, "gives", len(table), "rows of", len(from), len(to))
	}
	for i := 0; i < len(from); i += 9 {
		reach := impl.Reach(g, from[i])
		var row []int64
		for _, e := range to {
			row = append(row, reach[e])
		}
		checkNumbers(t, name, table[i], row...)
	}
}

// spreadOver are MaxTable numbers of so many, as far from each other as can be.
func spreadOver(places int) []int64 {
	var list []int64
	for i := range impl.MaxTable {
		list = append(list, int64(i*(places-1)/(impl.MaxTable-1)))
	}
	return list
}

func TestTablesOfAGreatTown(t *testing.T) {
	tell := numbers(137)
	g := greatTown(tell)
	places := spreadOver(impl.MaxNodes)
	checkGreat(t, "a town", g, places, places)
	checkNoBetterSum(t, g, places)
	var far []impl.Arrival
	s := tell.Int63n(impl.MaxNodes)
	reach := impl.Reach(g, s)
	for e, time := range reach {
		if time >= 0 && time <= 100 {
			far = append(far, arrival(int64(e), time))
		}
	}
	slices.SortStableFunc(far, func(a impl.Arrival, b impl.Arrival) int { return int(a.Time - b.Time) })
	checkWithin(t, "a town", g, s, 100, far...)
	if len(far) < 50 {
		t.Error("too few are reached:", len(far))
	}
	slow := impl.Slower(g, []int64{1}, 150)
	checkGraph(t, "a town", slow, slowerOf(g, []int64{1}, 150))
	checkPath(t, "a town", impl.Daily(g, allDay(150), s, far[40].Spot, 0), impl.BestPath(slow, s, far[40].Spot))
}

// checkNoBetterSum holds the Center against the sums of a table.
func checkNoBetterSum(t *testing.T, g impl.Graph, places []int64) {
	t.Helper()
	want, least := int64(-1), int64(-1)
	for i, row := range impl.Times(g, places, places) {
		sum := int64(0)
		for _, time := range row {
			sum += time
		}
		if !slices.Contains(row, -1) && (least < 0 || sum < least) {
			want, least = places[i], sum
		}
	}
	checkCenter(t, "a great graph", g, places, want)
}

func TestTablesOfOtherGreatGraphs(t *testing.T) {
	tell := numbers(138)
	g := lane(4001, impl.MaxTime)
	checkGreat(t, "a lane", g, spreadOver(4001), spreadOver(4001))
	checkNoBetterSum(t, g, spreadOver(4001))
	around := func(int64) impl.Point { return somewhere(tell, 1000) }
	g = hub(4000, around, func(int64) int64 { return 1 + tell.Int63n(30) })
	checkGreat(t, "a hub", g, spreadOver(4001), spreadOver(4001))
	checkNoBetterSum(t, g, spreadOver(4001))
	checkGreat(t, "loops", loops(8000), make([]int64, 100), make([]int64, 100))
	checkGreat(t, "side by side", sideways(1600), make([]int64, 100), spreadOver(3202))
	var all []impl.Arrival
	for i := range int64(4001) {
		all = append(all, arrival(i, i*1000000))
	}
	checkWithin(t, "a lane", lane(4001, impl.MaxTime), 0, 4000000000, all...)
	checkWithin(t, "a lane", lane(4001, impl.MaxTime), 0, 3999999999, all[:4000]...)
}

// sideways leads from place 0 by so many places to one, and from there, always to the left, to as many others.
func sideways(many int64) impl.Graph {
	g := impl.Graph{Places: []impl.Spot{spotAt(1, -1000, 0)}}
	middle := many + 1
	for i := range many {
		g.Places = append(g.Places, spotAt(i+2, -500+i%3, 0))
		g.Roads = append(g.Roads, timed(0, i+1, 1), timed(i+1, middle, 1), timed(middle, middle+1+i, 1))
	}
	g.Places = append(g.Places, spotAt(many+2, 0, 0))
	for i := range many {
		g.Places = append(g.Places, spotAt(many+3+i, 0, 100+i%3))
	}
	return g
}

func TestOtherWaysInAGreatTown(t *testing.T) {
	tell := numbers(139)
	g := greatTown(tell)
	several := 0
	for range 25 {
		s := tell.Int63n(impl.MaxNodes)
		within := impl.Within(g, s, 150)
		e := within[tell.Intn(len(within))].Spot
		w := someWish(tell)
		told := impl.Alternatives(g, s, e, w)
		checkWished(t, g, s, e, w, told)
		several += count(len(told) > 1)
		for range 3 {
			v := within[tell.Intn(len(within))].Spot
			checkPath(t, "in the town", impl.Via(g, s, v, e), joinedOf(g, impl.BestPath(g, s, v), impl.BestPath(g, v, e)))
		}
		// A place on the way is one by way of which it is best.
		for _, p := range told[1:] {
			var by []int64
			for _, r := range p.Roads {
				by = append(by, g.Roads[r].From)
			}
			if !isVia(g, s, e, p, by) {
				t.Error("of no place is this the Via:", short(p))
			}
		}
	}
	if several < 5 {
		t.Error("too few have other ways:", several)
	}
}

// joinedOf is joinedIn with what TurnTime says.
func joinedOf(g impl.Graph, a impl.Path, b impl.Path) impl.Path {
	if a.Found && b.Found && len(a.Roads) > 0 && len(b.Roads) > 0 {
		turn := impl.TurnTime(g, a.Roads[len(a.Roads)-1], b.Roads[0])
		if turn < 0 {
			return impl.Path{}
		}
		a.Time += turn
	}
	if !a.Found || !b.Found {
		return impl.Path{}
	}
	return impl.Path{Found: true, Roads: slices.Concat(a.Roads, b.Roads), Time: a.Time + b.Time, Length: a.Length + b.Length}
}

func TestOtherWaysInOtherGreatGraphs(t *testing.T) {
	all := wish(10, 1000, 100)
	var along []int64
	for i := range int64(4000) {
		along = append(along, 2*i)
	}
	checkOthers(t, "a lane", lane(4001, impl.MaxTime), 0, 4000, all, along)
	checkVia(t, "a lane", lane(4001, impl.MaxTime), 0, 2000, 4000, 4000000000, along...)
	tell := numbers(143)
	around := func(int64) impl.Point { return somewhere(tell, 1000) }
	checkOthers(t, "a hub", hub(4000, around, func(int64) int64 { return 1 + tell.Int63n(30) }), 1, 4000, all, []int64{0, 7999})
	checkOthers(t, "loops", loops(8000), 0, 0, all, nil)
	// By so many places that lie side by side, the last Road is in all: nothing is said of the rest, which all are as good.
	var middles [][]int64
	for i := range int64(10) {
		middles = append(middles, []int64{3 * i, 3*i + 1, 3*1599 + 2})
	}
	checkOthers(t, "side by side", sideways(1600), 0, 3201, all, middles...)
	checkOthers(t, "side by side, nothing in common", sideways(1600), 0, 3201, wish(10, 1000, 0), middles[0])
	// As many middles as there may be places.
	g := byMiddles(slices.Repeat([]int64{50}, 4000)...)
	checkMiddles(t, "middles", g, all, 0, 1, 2, 3, 4, 5, 6, 7, 8, 9)
	var every []int64
	for i := range int64(8000) {
		every = append(every, i)
	}
	checkCommon(t, "all Roads", g, every, every, 4000*50)
	checkLoops(t, "all Roads", lane(4001, 3), true, every...)
	checkLoops(t, "a lane", lane(4001, 3), false, along...)
	checkLoops(t, "a lane and one back", lane(4001, 3), true, append(along, 7999)...)
}
