package tests

import (
	"testing"

	"loop.example/g00024/impl"
)

// Promise 3, of chapter 2: which maps can be.

func checkMap(t *testing.T, name string, m impl.Map, want bool) {
	t.Helper()
	if got := impl.MapOk(m); got != want {
		t.Errorf("MapOk, %s: %v", name, got)
	}
}

func TestMapsThatCanBe(t *testing.T) {
	checkMap(t, "nothing", impl.Map{}, true)
	checkMap(t, "nothing but empty lists", impl.Map{Nodes: []impl.Node{}, Ways: []impl.Way{}, Areas: []impl.Area{}}, true)
	checkMap(t, "one node", impl.Map{Nodes: []impl.Node{node(1, 0, 0)}}, true)
	checkMap(t, "a town", town(), true)
	checkMap(t, "all there may be", full(), true)
}

func TestMapsThatCanNotBe(t *testing.T) {
	eachFault(func(name string, m impl.Map) { checkMap(t, name, m, false) })
}

func TestIdsOfMaps(t *testing.T) {
	edge := impl.Map{
		Nodes: []impl.Node{node(1, 0, 0), node(impl.MaxId, 1, 1)},
		Ways:  []impl.Way{way(1, 1, impl.MaxId), way(impl.MaxId, impl.MaxId, 1)},
		Areas: []impl.Area{{Id: 1, Parts: []impl.Part{outer(impl.MaxId)}}, {Id: impl.MaxId, Parts: []impl.Part{outer(1)}}},
	}
	checkMap(t, "the least and the greatest Ids", edge, true)
	for _, id := range []int64{-5, 0, 1, 2, impl.MaxId - 1, impl.MaxId, impl.MaxId + 1} {
		ok := 1 <= id && id <= impl.MaxId
		m := impl.Map{Nodes: []impl.Node{node(id, 0, 0)}}
		checkMap(t, "a node's Id", m, ok)
		m = blank(2, 1, 0)
		m.Ways[0].Id = id
		checkMap(t, "a way's Id", m, ok)
		m = blank(2, 1, 1)
		m.Areas[0].Id = id
		checkMap(t, "an area's Id", m, ok)
	}
}

// Two beside each other, in each of the lists, wherever they stand.
func TestOrderOfMaps(t *testing.T) {
	for a := int64(1); a <= 4; a++ {
		for b := int64(1); b <= 4; b++ {
			m := blank(2, 1, 0)
			m.Nodes = append(m.Nodes, node(2+a, 0, 0), node(2+b, 0, 0))
			checkMap(t, "nodes", m, a < b)
			m = blank(2, 1, 0)
			m.Ways = append(m.Ways, way(1+a, 1, 2), way(1+b, 1, 2))
			checkMap(t, "ways", m, a < b)
			m = blank(2, 1, 1)
			m.Areas = append(m.Areas, impl.Area{Id: 1 + a, Parts: []impl.Part{outer(1)}}, impl.Area{Id: 1 + b, Parts: []impl.Part{outer(1)}})
			checkMap(t, "areas", m, a < b)
		}
	}
}

func TestHowManyMapsHave(t *testing.T) {
	for more := -1; more <= 1; more++ {
		checkMap(t, "MaxNodes", blank(impl.MaxNodes+more, 0, 0), more <= 0)
		checkMap(t, "MaxWays", blank(impl.MaxWays+5, impl.MaxWays+more, 0), more <= 0)
		checkMap(t, "MaxAreas", blank(impl.MaxAreas+5, impl.MaxAreas+3, impl.MaxAreas+more), more <= 0)
	}
	if impl.MaxNodes != 5000 || impl.MaxWays != 1000 || impl.MaxAreas != 300 {
		t.Error("limits")
	}
}

func TestNodesOfWays(t *testing.T) {
	for _, count := range []int{0, 1, 2, 3, impl.MaxRow - 1, impl.MaxRow, impl.MaxRow + 1} {
		m := blank(3, 2, 0)
		m.Ways[1].Nodes = sway(1, 2, count)
		checkMap(t, "a way", m, 2 <= count && count <= 2000)
	}
	for _, c := range []struct {
		name  string
		nodes []int64
		want  bool
	}{
		{"there and back", []int64{1, 2, 1}, true},
		{"a ring", []int64{1, 2, 3, 1}, true},
		{"a knot", []int64{1, 2, 3, 1, 2, 3}, true},
		{"against the order of Ids", []int64{3, 2, 1}, true},
		{"twice at the beginning", []int64{1, 1, 2}, false},
		{"twice in the middle", []int64{1, 2, 2, 3}, false},
		{"twice at the end", []int64{1, 2, 2}, false},
		{"the same alone", []int64{1, 1}, false},
		{"one that is not there at the beginning", []int64{4, 1, 2}, false},
		{"one that is not there in the middle", []int64{1, 4, 2}, false},
		{"one that is not there at the end", []int64{1, 2, 4}, false},
		{"the number of a node in the list", []int64{0, 1}, false},
	} {
		m := blank(3, 2, 0)
		m.Ways[1].Nodes = c.nodes
		checkMap(t, "a way: "+c.name, m, c.want)
		m.Ways[0].Nodes, m.Ways[1].Nodes = m.Ways[1].Nodes, m.Ways[0].Nodes
		checkMap(t, "a first way: "+c.name, m, c.want)
	}
	// The two ends of two ways, one behind the other, are no two beside each other.
	m := blank(3, 0, 0)
	m.Ways = []impl.Way{way(1, 1, 2), way(2, 2, 3), way(3, 3, 2)}
	checkMap(t, "ways that meet", m, true)
	// Two nodes at one place are two.
	m.Nodes[1].Point = m.Nodes[0].Point
	checkMap(t, "nodes at one place", m, true)
}

func TestPartsOfAreas(t *testing.T) {
	for count := range impl.MaxTags + 3 {
		m := blank(50, 40, 1)
		m.Areas[0].Parts = nil
		for i := range int64(count) {
			m.Areas[0].Parts = append(m.Areas[0].Parts, impl.Part{Way: 40 - i, Inner: i%2 == 0})
		}
		checkMap(t, "Parts", m, 1 <= count && count <= 30)
	}
	for _, c := range []struct {
		name  string
		parts []impl.Part
		want  bool
	}{
		{"an inner one alone", []impl.Part{inner(2)}, true},
		{"in any order", []impl.Part{outer(3), inner(1), outer(2)}, true},
		{"one twice", []impl.Part{outer(2), outer(2)}, false},
		{"one twice, once inner", []impl.Part{outer(2), inner(2)}, false},
		{"one twice, once not inner", []impl.Part{inner(2), outer(2)}, false},
		{"one twice, apart", []impl.Part{outer(1), outer(2), outer(3), outer(1)}, false},
		{"one twice, apart, once inner", []impl.Part{outer(1), outer(2), outer(3), inner(1)}, false},
		{"one that is not there", []impl.Part{outer(4)}, false},
		{"one that is not there, behind others", []impl.Part{outer(1), outer(2), inner(4)}, false},
		{"none", []impl.Part{outer(0)}, false},
	} {
		m := blank(4, 3, 2)
		m.Areas[1].Parts = c.parts
		checkMap(t, "Parts: "+c.name, m, c.want)
		m.Areas[0].Parts, m.Areas[1].Parts = m.Areas[1].Parts, m.Areas[0].Parts
		checkMap(t, "the first one's Parts: "+c.name, m, c.want)
	}
	// Two areas may have one way.
	m := blank(4, 3, 2)
	m.Areas[1].Parts = m.Areas[0].Parts
	checkMap(t, "areas that share a way", m, true)
}

func TestPointsAndTagsOfMaps(t *testing.T) {
	m := town()
	m.Nodes[0].Point = at(impl.MaxCoord, -impl.MaxCoord)
	m.Nodes[7].Point = at(-impl.MaxCoord, impl.MaxCoord)
	m.Nodes[0].Tags = manyTags(impl.MaxTags)
	m.Ways[0].Tags = manyTags(impl.MaxTags)
	m.Areas[0].Tags = manyTags(impl.MaxTags)
	checkMap(t, "the farthest corners and as many Tags as may be", m, true)
	m.Nodes[0].Point.X++
	checkMap(t, "one more", m, false)
}

func TestMapsAgainstTheWords(t *testing.T) {
	tell := numbers(22)
	yes := 0
	for range 20000 {
		m := someMap(tell)
		if !mapCanBe(m) {
			t.Fatal("made wrongly:", m)
		}
		for range 1 + tell.Intn(2) {
			m = shaken(tell, m)
		}
		if mapCanBe(m) {
			yes++
		}
		if impl.MapOk(m) != mapCanBe(m) {
			t.Fatal(m, impl.MapOk(m))
		}
	}
	if yes < 4000 || yes > 16000 {
		t.Error("of one kind too few:", yes)
	}
}
