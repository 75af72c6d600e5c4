package tests

import (
	"testing"

	"loop.example/g00024/impl"
)

// Promise 19, of chapter 12: every function answers at every argument and none panics; answers are new memory; arguments stay.

type graphAndThree struct {
	Graph impl.Graph
	From  int64
	By    int64
	To    int64
}

type graphAndWish struct {
	Graph impl.Graph
	From  int64
	To    int64
	Wish  impl.Wish
}

// askCommon has the Roads in the place of places.
func askCommon(a graphAndTable) int64 { return impl.Common(a.Graph, a.From, a.To) }

func askLoops(a graphAndTable) bool { return impl.Loops(a.Graph, a.From) }

func askVia(a graphAndThree) impl.Path { return impl.Via(a.Graph, a.From, a.By, a.To) }

func askAlternatives(a graphAndWish) []impl.Path {
	return impl.Alternatives(a.Graph, a.From, a.To, a.Wish)
}

func TestGraphsStayAndOtherWaysAreNew(t *testing.T) {
	for _, g := range streetsToGuard() {
		last, end := int64(len(g.Places))-1, int64(len(g.Roads))-1
		for _, a := range [][]int64{nil, {}, {0, end, 0}, {end, end + 1}, {-1}, {0, 2, 4}} {
			for _, b := range [][]int64{nil, {end}, {4, 0}, {end + 1}} {
				checkMemory(t, "Common", graphAndTable{g, a, b}, askCommon)
			}
			checkMemory(t, "Loops", graphAndTable{Graph: g, From: a}, askLoops)
		}
		for _, s := range []int64{-1, 0, last, last + 1} {
			for _, e := range []int64{-1, 1, last} {
				for _, v := range []int64{0, 2, last + 1} {
					checkMemory(t, "Via", graphAndThree{g, s, v, e}, askVia)
				}
				for _, w := range []impl.Wish{{}, wish(1, 0, 0), wish(10, 1000, 100), wish(3, 50, 70)} {
					checkMemory(t, "Alternatives", graphAndWish{g, s, e, w}, askAlternatives)
				}
			}
		}
	}
}

// What was told before stays as it was, whatever is done to the arguments and to what is told later.
func TestOtherWaysDoNotFollow(t *testing.T) {
	g := forked(60, 40, 50)
	ask := func() []impl.Path { return append(impl.Alternatives(g, 0, 1, wish(10, 50, 60)), impl.Via(g, 0, 3, 1)) }
	want := same(ask())
	first := ask()
	later := ask()
	if len(want) != 3 {
		t.Fatal(len(want), "ways")
	}
	for i, p := range later {
		clear(p.Roads)
		_ = append(p.Roads, 7, 7, 7)
		_ = append(later[:i:i], impl.Path{})
	}
	clear(later)
	clear(g.Places)
	clear(g.Roads)
	checkPaths(t, "told before", first, want)
	// Nor does one way of an answer follow another one of it.
	clear(first[0].Roads)
	_ = append(first[0].Roads, 7, 7, 7)
	checkPaths(t, "told beside", first[1:], want[1:])
}

func TestOtherWaysOfEveryKindAreAnswered(t *testing.T) {
	tell := numbers(142)
	good, wished, found := map[bool]int{}, map[bool]int{}, 0
	for range 25000 {
		number := func() int64 {
			if tell.Intn(80) > 0 {
				return tell.Int63n(3)
			}
			return pick(tell, strange()...)
		}
		list := func() []int64 { return []int64{number(), number(), number()}[:tell.Intn(4)] }
		g := someWildGraph(number, 2+tell.Intn(2), tell.Intn(6), tell.Intn(6)/4)
		a, b, s, v, e := list(), list(), number(), number(), number()
		w := wish(number(), number()*40, number()*40)
		good[graphCanBe(g)]++
		wished[wishCanBe(w)]++
		if impl.WishOk(w) != wishCanBe(w) {
			t.Error("strange: WishOk", w)
		}
		checkCommon(t, "strange", g, a, b, commonOf(g, a, b))
		checkLoops(t, "strange", g, loopsOf(g, a), a...)
		checkPath(t, "strange", impl.Via(g, s, v, e), viaOf(g, s, v, e))
		told := impl.Alternatives(g, s, e, w)
		checkPaths(t, "strange", told, alternativesOf(g, s, e, w))
		found += len(told)
		if t.Failed() {
			t.Fatal(g, a, b, s, v, e, w)
		}
	}
	if good[true] < 4000 || good[false] < 4000 || wished[true] < 4000 || wished[false] < 4000 || found < 1000 {
		t.Error("too few of a kind:", good, wished, found)
	}
	for _, g := range []impl.Graph{{Places: make([]impl.Spot, 1<<20)}, {Roads: make([]impl.Road, 1<<20)}, {Bans: make([]impl.Ban, 1<<20)}} {
		checkCommon(t, "a great list", g, []int64{0}, []int64{0}, 0)
		checkLoops(t, "a great list", g, false, 0, 0)
		checkNoVia(t, "a great list", g, 0, 0, 0)
		checkOthers(t, "a great list", g, 0, 0, wish(3, 50, 70))
	}
	great := make([]int64, 1<<20)
	checkCommon(t, "great lists", lane(3, 7), great, great, 7)
	checkLoops(t, "a great list of Roads", lane(3, 7), true, great...)
}
