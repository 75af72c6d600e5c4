package tests

import (
	"slices"
	"testing"

	"loop.example/g00024/impl"
)

// Promise 16: what lies at a place is told.

func TestReverse(t *testing.T) {
	m := district()
	checkAddress(t, "on a way", m, at(20, 0), address(3, "Mill Lane", 0, 2, 9))
	checkAddress(t, "near a way", m, at(20, -7), address(3, "Mill Lane", 7))
	checkAddress(t, "near another", m, at(3, 20), address(5, "Nth. Station Rd", 3, 2, 9))
	checkAddress(t, "in the hole", m, at(20, 15), address(3, "Mill Lane", 15, 2))
	checkAddress(t, "on the hole's ring", m, at(20, 10), address(3, "Mill Lane", 10, 2, 9))
	checkAddress(t, "beyond the hole", m, at(31, 31), address(3, "Mill Lane", 9, 2, 9))
	checkAddress(t, "at an end", m, at(93, 4), address(8, "Mill Lane", 5))
	// The diagonal is as far from both: the first way counts.
	checkAddress(t, "as near", m, at(37, 37), address(3, "Mill Lane", 3, 2, 9))
	checkAddress(t, "the corner of two", m, at(40, 40), address(3, "Mill Lane", 0, 2, 9))
	checkAddress(t, "the first of two", m, at(40, 0), address(3, "Mill Lane", 0, 2, 9))
	checkAddress(t, "the far corner", m, at(0, 40), address(5, "Nth. Station Rd", 0, 2, 9))
}

func TestReverseOfWhatCannotBe(t *testing.T) {
	for _, p := range outside() {
		checkAddress(t, "a point that can't be", district(), p, impl.Address{})
		checkAddress(t, "a point that can't be", impl.Map{}, p, impl.Address{})
	}
	eachFault(func(name string, m impl.Map) {
		checkAddress(t, name, m, at(5, 5), impl.Address{})
	})
	m := district()
	m.Ways[2].Tags = tags("name", "")
	checkAddress(t, "an empty name", m, at(5, 5), impl.Address{})
	m = district()
	slices.Reverse(m.Areas)
	checkAddress(t, "areas the other way round", m, at(5, 5), impl.Address{})
	m = district()
	m.Areas[1].Parts[0].Way = 4
	checkAddress(t, "an area without its way", m, at(5, 5), impl.Address{})
}

func TestReverseAtTheEdgesOfThePlane(t *testing.T) {
	const most = impl.MaxCoord
	m := impl.Map{Nodes: []impl.Node{node(1, -most, -most), node(2, most, -most)}, Ways: []impl.Way{way(1, 1, 2)}}
	m.Ways[0].Tags = tags("name", "South")
	for _, p := range []impl.Point{at(-most, most), at(most, most), at(0, most)} {
		checkAddress(t, "across the plane", m, p, address(1, "South", 2*most))
	}
	checkAddress(t, "at its corner", m, at(most, -most), address(1, "South", 0))
}

func TestReverseWithoutStreets(t *testing.T) {
	checkAddress(t, "no map", impl.Map{}, at(3, 4), noStreet())
	checkAddress(t, "no ways", signs("Mill", "Gate"), at(0, 0), noStreet())
	checkAddress(t, "no names", alleys("", ""), at(0, 0), noStreet())
	m := district()
	for i := range m.Ways {
		m.Ways[i].Tags = tags("highway", "street", "ref", "4")
	}
	checkAddress(t, "areas alone", m, at(5, 5), noStreet(2, 9))
	checkAddress(t, "neither", m, at(50, 5), noStreet())
}

func TestWaysWithoutNamesArePassedOver(t *testing.T) {
	m := alleys("", "Mill", "", "Gate", "")
	for x := range int64(41) {
		want := address(2, "Mill", max(x-10, 10-x))
		if x > 20 {
			want = address(4, "Gate", max(x-30, 30-x))
		}
		checkAddress(t, "the nearest with a name", m, at(x, 3), want)
	}
}

func TestNearestStreets(t *testing.T) {
	m := alleys("Mill", "Gate", "Mill", "Oak")
	checkAddress(t, "as near as another", m, at(5, 2), address(1, "Mill", 5))
	checkAddress(t, "as near as another", m, at(15, 2), address(2, "Gate", 5))
	checkAddress(t, "nearer to the later", m, at(6, 2), address(2, "Gate", 4))
	checkAddress(t, "the last", m, at(37, 9), address(4, "Oak", 8))
	checkAddress(t, "a name without words", alleys("--"), at(1, 1), address(1, "--", 1))
	// Far is rounded: what is nearer by less than one is as near.
	m = alleys("Mill", "Gate")
	m.Nodes[2].Point, m.Nodes[3].Point = at(0, -1), at(100, -1)
	checkAddress(t, "as far by Far", m, at(-50, 2), address(1, "Mill", 50))
	checkAddress(t, "as far by Far", m, at(-50, -1), address(1, "Mill", 50))
	// Several on one line: all have it.
	m = alleys("Mill", "Gate", "Oak")
	for i := range m.Nodes {
		m.Nodes[i].Point.X = 0
	}
	checkAddress(t, "one place", m, at(0, 3), address(1, "Mill", 0))
	m.Ways[0].Tags = nil
	checkAddress(t, "one place", m, at(0, 3), address(2, "Gate", 0))
}

func TestAreasOfAPlace(t *testing.T) {
	hollow := drawn(outline(0, 0, 20, 0, 20, 20, 0, 20, 0, 0), hole(5, 5, 15, 5, 15, 15, 5, 15, 5, 5), outline(8, 8, 12, 8, 12, 12, 8, 12, 8, 8))
	// Area 6 has the last ring alone.
	for _, one := range []struct {
		name string
		p    impl.Point
		want []int64
	}{
		{"outside", at(30, 10), nil}, {"just outside", at(21, 10), nil}, {"on the outer ring", at(20, 10), []int64{7}}, {"at its corner", at(0, 0), []int64{7}},
		{"within", at(3, 10), []int64{7}}, {"on the hole's ring", at(5, 10), []int64{7}}, {"in the hole", at(6, 10), nil}, {"at the hole's corner", at(15, 15), []int64{7}},
		{"on the innermost ring", at(8, 10), []int64{6, 7}}, {"innermost", at(10, 10), []int64{6, 7}},
	} {
		checkAddress(t, one.name, hollow, one.p, noStreet(one.want...))
	}
}

func TestAreasWithAFault(t *testing.T) {
	inSquare := at(5, 5)
	whole := outline(0, 0, 10, 0, 10, 10, 0, 10, 0, 0)
	checkAddress(t, "a ring", drawn(whole), inSquare, noStreet(6, 7))
	checkAddress(t, "it does not close", drawn(outline(0, 0, 10, 0, 10, 10, 0, 10)), inSquare, noStreet())
	checkAddress(t, "it crosses itself", drawn(outline(0, 0, 10, 0, 0, 10, 10, 10, 0, 0)), at(5, 2), noStreet())
	checkAddress(t, "too few points", drawn(outline(0, 0, 10, 0, 0, 0)), at(5, 0), noStreet())
	// Area 6 has the last Part alone, which closes.
	checkAddress(t, "another ring does not close", drawn(outline(20, 20, 30, 20), whole), inSquare, noStreet(6))
	checkAddress(t, "another ring crosses itself", drawn(whole, outline(20, 0, 30, 0, 20, 10, 30, 10, 20, 0)), inSquare, noStreet())
	checkAddress(t, "inner and outer do not join", drawn(outline(0, 0, 10, 0, 10, 10), hole(10, 10, 0, 10, 0, 0)), inSquare, noStreet())
	checkAddress(t, "outer ones do", drawn(outline(0, 0, 10, 0, 10, 10), outline(0, 0, 0, 10, 10, 10)), inSquare, noStreet(7))
	checkAddress(t, "inner ones do too", drawn(hole(0, 0, 10, 0, 10, 10), hole(10, 10, 0, 10, 0, 0)), inSquare, noStreet(7))
}

func TestAreasByTheirIds(t *testing.T) {
	m := drawn(outline(0, 0, 10, 0, 10, 10, 0, 10, 0, 0), outline(4, 4, 30, 4, 30, 30, 4, 30, 4, 4))
	m.Areas = []impl.Area{
		{Id: 1, Parts: []impl.Part{outer(drawnWay(1))}}, {Id: 2, Parts: []impl.Part{outer(drawnWay(0))}}, {Id: 5, Parts: []impl.Part{inner(drawnWay(0))}},
		{Id: 1000000000, Parts: []impl.Part{inner(drawnWay(1))}},
	}
	checkAddress(t, "all", m, at(7, 7), noStreet(1, 2, 5, 1000000000))
	checkAddress(t, "the small one", m, at(1, 7), noStreet(2, 5))
	checkAddress(t, "the great one", m, at(20, 20), noStreet(1, 1000000000))
	checkAddress(t, "none", m, at(40, 20), noStreet())
	m.Areas = nil
	checkAddress(t, "no areas", m, at(7, 7), noStreet())
}
