package tests

import (
	"math"
	"math/rand"
	"slices"
	"testing"

	"loop.example/g00024/impl"
)

// Promise 9, of Forbid, NoBack and TurnsOf: nothing that is forbidden is ever allowed; in a map's graph, where nothing was
// forbidden yet, a Road that could be left can be left when turning back is forbidden.

func TestForbid(t *testing.T) {
	g := crossroads()
	checkForbid(t, "no lists", g, nil)
	checkForbid(t, "no lists", g, [][]int64{})
	checkForbid(t, "both directions of a way turn off", g, [][]int64{{5, 1, 6}}, ban(0, 4), ban(3, 4))
	checkForbid(t, "onto both directions of a way", g, [][]int64{{6, 1, 5}}, ban(5, 1), ban(5, 2))
	checkForbid(t, "one way, straight on and back", g, [][]int64{{5, 1, 5}}, ban(0, 1), ban(0, 2), ban(3, 1), ban(3, 2))
	checkForbid(t, "at a dead end", g, [][]int64{{6, 3, 6}}, ban(4, 5))
	checkForbid(t, "several", g, [][]int64{{6, 3, 6}, {5, 1, 6}, {5, 2, 5}}, ban(0, 4), ban(2, 3), ban(3, 4), ban(4, 5))
	checkForbid(t, "one twice", g, [][]int64{{5, 1, 6}, {6, 3, 6}, {5, 1, 6}}, ban(0, 4), ban(3, 4), ban(4, 5))
	checkForbid(t, "the last place", g, [][]int64{{5, 4, 5}}, ban(1, 0))
	checkForbid(t, "a Road that follows itself", loops(1), [][]int64{{1, 1, 1}}, ban(0, 0))
	checkForbid(t, "Roads that follow each other", loops(1, 2), [][]int64{{1, 1, 2}}, ban(0, 1), ban(0, 2))
}

func TestForbidOfWhatIsNotThere(t *testing.T) {
	g := crossroads()
	for _, lists := range [][][]int64{
		{nil}, {{}}, {{5}}, {{5, 1}}, {{5, 1, 6, 5}}, {{5, 1, 6, 5, 1, 6}}, {make([]int64, 1<<20)},
		{{7, 1, 6}}, {{5, 1, 7}}, {{5, 5, 6}}, {{5, 0, 6}}, {{6, 2, 5}}, {{5, 3, 6}}, {{6, 4, 6}}, {{1, 5, 6}}, {{5, 6, 1}},
		{{5, -1, 6}}, {{-5, 1, 6}}, {{math.MaxInt64, 1, math.MinInt64}}, {{5, math.MaxInt64, 6}}, {{5, math.MinInt64, 6}},
	} {
		checkForbid(t, "not there", g, lists)
		checkForbid(t, "not there, and there", g, append(lists, []int64{6, 3, 6}), ban(4, 5))
		checkForbid(t, "not there, Bans that are", withBans(g, ban(0, 2)), lists, ban(0, 2))
	}
	checkForbid(t, "no Roads", manyPlaces(9), [][]int64{{1, 1, 1}})
	checkForbid(t, "nothing at all", impl.Graph{}, [][]int64{{1, 1, 1}})
	// Ids of places, not their numbers.
	far := impl.Graph{Places: []impl.Spot{spotAt(7, 0, 0), spotAt(900, 5, 0)}, Roads: []impl.Road{road(0, 1, 1), road(1, 0, 1)}}
	checkForbid(t, "a number of a place", far, [][]int64{{1, 0, 1}, {1, 1, 1}})
	checkForbid(t, "an Id", far, [][]int64{{1, 900, 1}}, ban(0, 1))
	checkForbid(t, "the first Id", far, [][]int64{{1, 7, 1}}, ban(1, 0))
}

func TestForbidWhatIsForbidden(t *testing.T) {
	g := withBans(crossroads(), ban(0, 2), ban(3, 4), ban(5, 1))
	checkForbid(t, "no lists", g, nil, g.Bans...)
	checkForbid(t, "one of them is forbidden", g, [][]int64{{5, 1, 6}}, ban(0, 2), ban(0, 4), ban(3, 4), ban(5, 1))
	checkForbid(t, "some of them are forbidden", g, [][]int64{{6, 1, 5}, {5, 1, 5}}, ban(0, 1), ban(0, 2), ban(3, 1), ban(3, 2), ban(3, 4), ban(5, 1), ban(5, 2))
	twice := impl.Forbid(impl.Forbid(g, [][]int64{{5, 1, 6}}), [][]int64{{5, 1, 6}})
	checkBans(t, "twice", twice, g, ban(0, 2), ban(0, 4), ban(3, 4), ban(5, 1))
}

func TestForbidAsMuchAsMayBe(t *testing.T) {
	g := crossroads()
	lists := slices.Repeat([][]int64{{6, 3, 6}}, impl.MaxBans)
	checkForbid(t, "MaxBans lists", g, lists, ban(4, 5))
	checkForbid(t, "MaxBans lists of nothing", g, make([][]int64, 2000))
	checkGraph(t, "one more", impl.Forbid(g, append(lists, []int64{6, 3, 6})), impl.Graph{})
	checkGraph(t, "one more of nothing", impl.Forbid(g, append(lists, nil)), impl.Graph{})
	checkGraph(t, "all of nothing", impl.Forbid(g, make([][]int64, 2001)), impl.Graph{})
	checkGraph(t, "far more", impl.Forbid(g, make([][]int64, 1<<20)), impl.Graph{})

	// From 40 Roads to 50: 2000 turns; from one of them to its like: one more.
	full := loops(40, 50)
	most := turnsIn(full, func(from int64, to int64) bool { return from < 40 && to >= 40 })
	checkForbid(t, "MaxBans Bans", full, [][]int64{{1, 1, 2}}, most...)
	checkForbid(t, "MaxBans Bans, twice", full, [][]int64{{1, 1, 2}, {1, 1, 2}}, most...)
	checkForbid(t, "MaxBans Bans, some forbidden", withBans(full, most[7:900]...), [][]int64{{1, 1, 2}}, most...)
	checkForbid(t, "MaxBans Bans, all forbidden", withBans(full, most...), [][]int64{{1, 1, 2}}, most...)
	checkGraph(t, "one is forbidden besides", impl.Forbid(withBans(full, ban(0, 0)), [][]int64{{1, 1, 2}}), impl.Graph{})
	checkGraph(t, "one is forbidden besides, behind", impl.Forbid(withBans(full, ban(89, 89)), [][]int64{{1, 1, 2}}), impl.Graph{})
	checkGraph(t, "one more", impl.Forbid(loops(40, 50, 1), [][]int64{{1, 1, 2}, {3, 1, 3}}), impl.Graph{})
	checkGraph(t, "one more, first", impl.Forbid(loops(40, 50, 1), [][]int64{{3, 1, 3}, {1, 1, 2}}), impl.Graph{})
	checkGraph(t, "2001 at once", impl.Forbid(loops(3, 667), [][]int64{{1, 1, 2}}), impl.Graph{})
	// 64 million turns, thousands of times.
	checkGraph(t, "far more", impl.Forbid(loops(8000), slices.Repeat([][]int64{{1, 1, 1}}, 2000)), impl.Graph{})
	checkForbid(t, "far more Roads than turns", loops(1, 1, 7998), slices.Repeat([][]int64{{1, 1, 2}}, 2000), ban(0, 1))
}

func TestNoBack(t *testing.T) {
	checkNoBack(t, "nothing at all", impl.Graph{})
	checkNoBack(t, "places alone", manyPlaces(3))
	// At the middle there is another way on, at the ends there is none.
	checkNoBack(t, "crossroads", crossroads(), ban(0, 1), ban(3, 2), ban(5, 4))
	lane := impl.Graph{Places: manyPlaces(2).Places, Roads: []impl.Road{road(0, 1, 1), road(1, 0, 1)}}
	checkNoBack(t, "a dead end at both ends", lane)
	lane.Roads = append(lane.Roads, road(1, 0, 2))
	checkNoBack(t, "back on another way", lane, ban(0, 1))
	lane.Roads[2] = road(1, 0, 1)
	checkNoBack(t, "all lead back", lane)
	lane.Roads[2] = road(1, 1, 1)
	checkNoBack(t, "a Road to itself is a way on", lane, ban(0, 1), ban(2, 2))
	lane.Roads[2] = road(0, 1, 1)
	checkNoBack(t, "two Roads there, one back", lane)
	three := impl.Graph{Places: manyPlaces(3).Places, Roads: []impl.Road{road(0, 1, 1), road(1, 0, 1), road(1, 2, 1)}}
	checkNoBack(t, "a way on of the same way", three, ban(0, 1))
	three.Roads = []impl.Road{road(0, 1, 1), road(1, 0, 1), road(1, 0, 1), road(1, 2, 9)}
	checkNoBack(t, "several Roads back", three, ban(0, 1), ban(0, 2))
	three.Roads = []impl.Road{road(0, 1, 1), road(0, 1, 1), road(1, 2, 9), road(1, 0, 1), road(0, 1, 2), road(1, 0, 2)}
	checkNoBack(t, "several Roads there", three, ban(0, 3), ban(1, 3), ban(3, 0), ban(3, 1), ban(4, 5), ban(5, 4))
	three.Roads = []impl.Road{road(0, 1, 1), road(1, 2, 1), road(2, 0, 1)}
	checkNoBack(t, "round and round", three)
	three.Roads = []impl.Road{road(0, 1, 1), road(2, 1, 1), road(1, 0, 1)}
	checkNoBack(t, "a dead end for one of two", three)
	three.Roads = []impl.Road{road(2, 1, 1), road(1, 2, 2), road(0, 1, 1), road(1, 0, 1)}
	checkNoBack(t, "the way on leads back on another way", three, ban(2, 3))
}

// From a Road that leads to where it begins, those lead back that do so on the same way, itself too.
func TestNoBackFromAPlaceToItself(t *testing.T) {
	checkNoBack(t, "one", loops(1))
	checkNoBack(t, "several, all on one way", loops(4))
	checkNoBack(t, "on two ways", loops(1, 1), ban(0, 0), ban(1, 1))
	checkNoBack(t, "on two ways, several", loops(2, 1), ban(0, 0), ban(0, 1), ban(1, 0), ban(1, 1), ban(2, 2))
	g := impl.Graph{Places: manyPlaces(2).Places, Roads: []impl.Road{road(0, 0, 1), road(0, 1, 1), road(1, 0, 1)}}
	checkNoBack(t, "with a way on", g, ban(0, 0), ban(2, 1))
	g.Roads[0].Way = 2
	checkNoBack(t, "of another way", g, ban(0, 0), ban(2, 1))
}

func TestNoBackKeepsWhatIsForbidden(t *testing.T) {
	checkNoBack(t, "the same", withBans(crossroads(), ban(0, 1)), ban(0, 1), ban(3, 2), ban(5, 4))
	checkNoBack(t, "others", withBans(crossroads(), ban(0, 2), ban(3, 1)), ban(0, 1), ban(0, 2), ban(3, 1), ban(3, 2), ban(5, 4))
	// At a dead end what was forbidden stays so, and nothing more is.
	checkNoBack(t, "a dead end", withBans(crossroads(), ban(1, 0)), ban(0, 1), ban(1, 0), ban(3, 2), ban(5, 4))
	checkNoBack(t, "every dead end", withBans(crossroads(), ban(1, 0), ban(2, 3), ban(4, 5)), ban(0, 1), ban(1, 0), ban(2, 3), ban(3, 2), ban(4, 5), ban(5, 4))
	checkNoBack(t, "one of several that lead back", withBans(loops(2), ban(0, 1)), ban(0, 1))
	// A way on that is forbidden is a way on all the same: it begins there.
	checkNoBack(t, "the ways on are forbidden", withBans(crossroads(), ban(0, 2), ban(0, 4)), ban(0, 1), ban(0, 2), ban(0, 4), ban(3, 2), ban(5, 4))
	all := turnsIn(crossroads(), func(from int64, to int64) bool { return true })
	checkNoBack(t, "every turn", withBans(crossroads(), all...), all...)
	checkBans(t, "twice", impl.NoBack(impl.NoBack(crossroads())), crossroads(), ban(0, 1), ban(3, 2), ban(5, 4))
}

func TestNoBackAsMuchAsMayBe(t *testing.T) {
	// 40 times 40 and 20 times 20 turns back: 2000.
	full := loops(40, 20)
	most := turnsIn(full, func(from int64, to int64) bool { return (from < 40) == (to < 40) })
	checkNoBack(t, "MaxBans", full, most...)
	checkNoBack(t, "MaxBans, some forbidden", withBans(full, most[3:700]...), most...)
	checkNoBack(t, "MaxBans, all forbidden", withBans(full, most...), most...)
	checkGraph(t, "one more", impl.NoBack(loops(40, 20, 1)), impl.Graph{})
	checkGraph(t, "one is forbidden besides", impl.NoBack(withBans(full, ban(0, 40))), impl.Graph{})
	checkGraph(t, "one is forbidden besides, behind", impl.NoBack(withBans(full, ban(59, 0))), impl.Graph{})
	checkGraph(t, "far more", impl.NoBack(loops(7999, 1)), impl.Graph{})
	checkGraph(t, "far more, all of one kind", impl.NoBack(loops(slices.Repeat([]int{1}, 8000)...)), impl.Graph{})
	// All lead back, so that none is forbidden, however many they are.
	checkNoBack(t, "none of 64 million", loops(8000))
	checkNoBack(t, "none but what is forbidden", withBans(loops(8000), allTurns(loops(8000), 2000)...), allTurns(loops(8000), 2000)...)
	lane := impl.Graph{Places: manyPlaces(2).Places}
	for i := range int64(8000) {
		lane.Roads = append(lane.Roads, road(i%2, 1-i%2, 7))
	}
	checkNoBack(t, "none of 32 million", lane)
}

// beforeAndBehind is a dead end of two Roads, with Bans, on each side of a place with just so many turns back.
func beforeAndBehind(first bool, last bool, turns int) impl.Graph {
	g := impl.Graph{Places: manyPlaces(5).Places}
	for range 2 {
		g.Roads = append(g.Roads, road(0, 1, 1), road(1, 0, 1))
	}
	for i := range int64(turns) {
		g.Roads = append(g.Roads, road(2, 2, 10+i))
	}
	for range 2 {
		g.Roads = append(g.Roads, road(3, 4, 2), road(4, 3, 2))
	}
	behind := int64(turns + 4)
	if first {
		g.Bans = append(g.Bans, ban(0, 1), ban(1, 0), ban(2, 3), ban(3, 2))
	}
	if last {
		g.Bans = append(g.Bans, ban(behind, behind+1), ban(behind+1, behind), ban(behind+2, behind+3), ban(behind+3, behind+2))
	}
	return g
}

func TestNoBackCountsWhatIsForbiddenAtDeadEnds(t *testing.T) {
	for _, first := range []bool{false, true} {
		for _, last := range []bool{false, true} {
			there := 4*count(first) + 4*count(last)
			for turns := 1990; turns <= 2003; turns++ {
				g := beforeAndBehind(first, last, turns)
				want := slices.Clone(g.Bans)
				for i := range int64(turns) {
					want = append(want, ban(4+i, 4+i))
				}
				slices.SortFunc(want, func(a impl.Ban, b impl.Ban) int { return int(a.From*10000 + a.To - b.From*10000 - b.To) })
				if turns+there <= 2000 {
					checkNoBack(t, "as many as may be", g, want...)
				} else {
					checkGraph(t, "too many", impl.NoBack(g), impl.Graph{})
				}
			}
		}
	}
}

func TestGraphsThatCanNotBeHaveNoTurns(t *testing.T) {
	for _, bad := range badGraphs() {
		checkGraph(t, bad.name, impl.Forbid(bad.graph, nil), impl.Graph{})
		checkGraph(t, bad.name, impl.Forbid(bad.graph, [][]int64{{5, 1, 6}}), impl.Graph{})
		checkGraph(t, bad.name, impl.NoBack(bad.graph), impl.Graph{})
		for _, r := range []int64{-1, 0, 3, 5} {
			checkTurns(t, bad.name, bad.graph, r)
		}
	}
}

func TestTurns(t *testing.T) {
	for _, n := range []int64{math.MinInt64, -1, 0, 1, math.MaxInt64} {
		checkTurns(t, "nothing at all", impl.Graph{}, n)
		checkTurns(t, "no Roads", manyPlaces(3), n)
	}
	g := crossroads()
	for n, want := range [][]int64{{1, 2, 4}, {0}, {3}, {1, 2, 4}, {5}, {1, 2, 4}} {
		checkTurns(t, "each Road", g, int64(n), want...)
	}
	for _, n := range []int64{math.MinInt64, -1, 6, 7, math.MaxInt64} {
		checkTurns(t, "no Road", g, n)
		checkTurns(t, "no Road", withBans(g, ban(0, 1)), n)
	}
	g = withBans(g, ban(0, 1), ban(3, 4), ban(4, 5), ban(5, 1), ban(5, 2), ban(5, 4))
	for n, want := range [][]int64{{2, 4}, {0}, {3}, {1, 2}, nil, nil} {
		checkTurns(t, "each Road, with Bans", g, int64(n), want...)
	}
	checkTurns(t, "a Road that follows itself", loops(1), 0, 0)
	checkTurns(t, "a Road that may not follow itself", withBans(loops(1), ban(0, 0)), 0)
	checkTurns(t, "Roads that follow each other", withBans(loops(3), ban(1, 1)), 1, 0, 2)
	end := impl.Graph{Places: manyPlaces(2).Places, Roads: []impl.Road{road(0, 1, 1)}}
	checkTurns(t, "the end of the world", end, 0)
	full := impl.TurnsOf(loops(8000), 7999)
	if len(full) != 8000 || !slices.IsSorted(full) || full[7999] != 7999 {
		t.Error("MaxRoads", short(full))
	}
	checkTurns(t, "behind MaxRoads", loops(8000), 8000)
}

// checkStricter asks what is promised of a graph with more Bans: the same places and Roads, no Ban gone, no turn allowed.
func checkStricter(t *testing.T, name string, before impl.Graph, behind impl.Graph) {
	t.Helper()
	checkGraphOk(t, name, behind, true)
	if !slices.Equal(before.Places, behind.Places) || !slices.Equal(before.Roads, behind.Roads) {
		t.Error(name, "is another graph")
	}
	for _, b := range before.Bans {
		if !slices.Contains(behind.Bans, b) {
			t.Error(name, "allows", b, before)
		}
	}
	for n := range int64(len(before.Roads)) {
		allowed := impl.TurnsOf(before, n)
		for _, to := range impl.TurnsOf(behind, n) {
			if !slices.Contains(allowed, to) || slices.Contains(behind.Bans, ban(n, to)) {
				t.Error(name, "allows", n, to, before)
			}
		}
	}
}

func TestBansAgainstTheWords(t *testing.T) {
	tell := numbers(110)
	more, back := 0, 0
	for range 8000 {
		g, lists := someGraph(tell), someForbidden(tell)
		forbidden, noBack := impl.Forbid(g, lists), impl.NoBack(g)
		checkGraph(t, "Forbid", forbidden, forbidOf(g, lists))
		checkGraph(t, "NoBack", noBack, noBackOf(g))
		checkStricter(t, "Forbid", g, forbidden)
		checkStricter(t, "NoBack", g, noBack)
		checkGraph(t, "NoBack of Forbid", impl.NoBack(forbidden), noBackOf(forbidOf(g, lists)))
		checkGraph(t, "Forbid of NoBack", impl.Forbid(noBack, lists), forbidOf(noBackOf(g), lists))
		for n := int64(-1); n <= int64(len(g.Roads)); n++ {
			checkTurns(t, "TurnsOf", forbidden, n, turnsOf(forbidden, n)...)
		}
		for _, list := range lists {
			checkForbiddenThere(t, forbidden, list)
		}
		more += len(forbidden.Bans) - len(g.Bans)
		back += len(noBack.Bans) - len(g.Bans)
		if t.Failed() {
			t.Fatal(g, lists)
		}
	}
	if more < 5000 || back < 5000 {
		t.Error("too few were forbidden:", more, back)
	}
}

// checkForbiddenThere asks that the turns that a list names are not allowed.
func checkForbiddenThere(t *testing.T, g impl.Graph, list []int64) {
	t.Helper()
	for n, r := range g.Roads {
		for _, to := range impl.TurnsOf(g, int64(n)) {
			if slices.Equal(list, []int64{r.Way, g.Places[r.To].Id, g.Roads[to].Way}) {
				t.Error(list, "is allowed:", n, to)
			}
		}
	}
}

// leafy is a map's graph with dead ends, rings and ways that are driven to and fro.
func leafy(r *rand.Rand) impl.Graph { return impl.MakeGraph(someRoadMap(r), pick(r, int64(car), foot)) }

func TestWhatCouldBeLeftCanBeLeft(t *testing.T) {
	tell := numbers(111)
	left, ends, forbidden := 0, 0, 0
	for range 6000 {
		g := leafy(tell)
		noBack := impl.NoBack(g)
		checkGraph(t, "NoBack", noBack, noBackOf(g))
		checkStricter(t, "NoBack", g, noBack)
		forbidden += len(noBack.Bans)
		for n := range int64(len(g.Roads)) {
			turns := impl.TurnsOf(noBack, n)
			if len(impl.TurnsOf(g, n)) > 0 && len(turns) == 0 {
				t.Error("can't be left any more:", n, g)
			}
			onward := slices.ContainsFunc(turns, func(to int64) bool { return !leadsBack(g, n, to) })
			if onward && slices.ContainsFunc(turns, func(to int64) bool { return leadsBack(g, n, to) }) {
				t.Error("one may turn back though there is a way on:", n, g)
			}
			left += count(onward)
			ends += count(!onward && len(turns) > 0)
		}
		if t.Failed() {
			t.FailNow()
		}
	}
	if left < 5000 || ends < 2000 || forbidden < 5000 {
		t.Error("too few of a kind:", left, ends, forbidden)
	}
}

// A whole town: rows and columns of streets, each of its own way.
func TestNoBackInATown(t *testing.T) {
	const side = 20
	var m impl.Map
	for y := range int64(side) {
		for x := range int64(side) {
			m.Nodes = append(m.Nodes, node(1+y*side+x, 100*x, 100*y))
		}
	}
	for i := range int64(side) {
		var row, column []int64
		for k := range int64(side) {
			row, column = append(row, 1+i*side+k), append(column, 1+k*side+i)
		}
		m.Ways = append(m.Ways, tagged(way(2*i+1, row...), "highway", "street"), tagged(way(2*i+2, column...), "highway", "main"))
	}
	g := impl.MakeGraph(m, impl.CarKind)
	checkGraph(t, "a town", g, graphOf(m, car))
	noBack := impl.NoBack(g)
	// Every Road meets another way wherever it ends, so that each has its one turn back forbidden.
	if len(g.Roads) != 4*side*(side-1) || len(noBack.Bans) != len(g.Roads) {
		t.Error(len(g.Roads), len(noBack.Bans))
	}
	checkStricter(t, "a town", g, noBack)
	for n := range int64(len(g.Roads)) {
		turns := turnsOf(noBack, n)
		checkTurns(t, "a town", noBack, n, turns...)
		if len(turns) == 0 || slices.ContainsFunc(turns, func(to int64) bool { return leadsBack(g, n, to) }) {
			t.Error(n, turns)
		}
	}
}
