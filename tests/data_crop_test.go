package tests

import (
	"math"
	"slices"
	"testing"

	"loop.example/g00024/impl"
)

// Promise 3, of chapter 2: what is told of a map, and what of it lies in a box.

func TestWayRow(t *testing.T) {
	m := town()
	for id, want := range map[int64][]impl.Point{
		1:  {at(0, 0), at(10, 0)},
		5:  {at(10, 0), at(10, 10)},
		6:  {at(10, 10), at(0, 10), at(0, 0)},
		9:  {at(10, 10), at(20, 10), at(10, 10), at(20, 10)},
		12: {at(0, 10), at(10, 0), at(0, 10)},
		2:  nil, 7: nil, 20: nil, 0: nil, -1: nil, impl.MaxId: nil, impl.MaxId + 1: nil, math.MinInt64: nil, math.MaxInt64: nil,
	} {
		if got := impl.WayRow(m, id); !slices.Equal(got, want) {
			t.Error(id, got)
		}
	}
	if got := impl.WayRow(impl.Map{}, 1); len(got) != 0 {
		t.Error("of nothing:", got)
	}
}

func TestUsersOf(t *testing.T) {
	m := town()
	checkIds(t, "two ends", impl.UsersOf(m, 1), 1, 6)
	checkIds(t, "an end and a middle", impl.UsersOf(m, 2), 1, 5, 12)
	checkIds(t, "twice in one way", impl.UsersOf(m, 3), 5, 6, 9)
	checkIds(t, "first and last of one way", impl.UsersOf(m, 4), 6, 12)
	checkIds(t, "one way", impl.UsersOf(m, 5), 9)
	for _, id := range []int64{7, 8, 9, 6, 12, 0, -1, impl.MaxId + 1, math.MinInt64, math.MaxInt64} {
		checkIds(t, "none", impl.UsersOf(m, id))
	}
	checkIds(t, "of nothing", impl.UsersOf(impl.Map{}, 1))
}

func TestUnused(t *testing.T) {
	m := town()
	checkIds(t, "a town", impl.Unused(m), 7, 9)
	m.Ways = nil
	m.Areas = nil
	checkIds(t, "without its ways", impl.Unused(m), 1, 2, 4, 7, 9)
	m.Nodes[0].Tags, m.Nodes[2].Tags = m.Nodes[2].Tags, nil
	checkIds(t, "with Tags at another", impl.Unused(m), 2, 3, 4, 7, 9)
	checkIds(t, "of nothing", impl.Unused(impl.Map{}))
}

func checkCrop(t *testing.T, name string, m impl.Map, b impl.Box, nodes []int64, ways []int64, areas []int64) {
	t.Helper()
	want := impl.Map{}
	for _, n := range m.Nodes {
		if slices.Contains(nodes, n.Id) {
			want.Nodes = append(want.Nodes, n)
		}
	}
	for _, w := range m.Ways {
		if slices.Contains(ways, w.Id) {
			want.Ways = append(want.Ways, w)
		}
	}
	for _, a := range m.Areas {
		if slices.Contains(areas, a.Id) {
			want.Areas = append(want.Areas, a)
		}
	}
	if len(want.Nodes) != len(nodes) || len(want.Ways) != len(ways) || len(want.Areas) != len(areas) {
		t.Fatal("asked wrongly:", name)
	}
	if got := impl.Crop(m, b); !sameMap(got, want) {
		t.Error(name, got)
	}
}

type ids = []int64

func TestCrop(t *testing.T) {
	m := town()
	checkCrop(t, "all", m, box(-100, -100, 100, 100), ids{1, 2, 3, 4, 5, 8}, ids{1, 5, 6, 9, 12}, ids{1, 5, 20})
	checkCrop(t, "one end of two ways, the others outside", m, box(-1, -1, 1, 1), ids{1, 2, 3, 4}, ids{1, 6}, nil)
	checkCrop(t, "a node with Tags outside that a kept way has", m, box(20, 10, 20, 10), ids{3, 5}, ids{9}, ids{5})
	checkCrop(t, "a node with Tags alone", m, box(25, 25, 35, 35), ids{8}, nil, nil)
	checkCrop(t, "a node without Tags that no way has", m, box(90, -5, 110, 5), nil, nil, nil)
	checkCrop(t, "a stretch through the box, but no node of it", m, box(4, -1, 6, 1), nil, nil, nil)
	checkCrop(t, "an area that lacks a way", m, box(9, 9, 11, 11), ids{1, 2, 3, 4, 5}, ids{5, 6, 9}, ids{5})
	checkCrop(t, "an area whose ways all reach in", m, box(-1, 9, 1, 11), ids{1, 2, 3, 4}, ids{6, 12}, ids{20})
	checkCrop(t, "nothing there", m, box(50, 50, 60, 60), nil, nil, nil)
	checkCrop(t, "of nothing", impl.Map{}, box(-1, -1, 1, 1), nil, nil, nil)
}

// One node with Tags, and one of a way without: the box ends at, ahead of and behind them, on each of its four sides.
func TestEdgesOfCrops(t *testing.T) {
	for _, m := range []impl.Map{
		{Nodes: []impl.Node{node(3, 5, 7, "name", "Mill")}},
		{Nodes: []impl.Node{node(3, 5, 7), node(4, 1000, 1000)}, Ways: []impl.Way{way(2, 3, 4)}, Areas: []impl.Area{{Id: 9, Parts: []impl.Part{inner(2)}}}},
	} {
		for by := int64(-1); by <= 1; by++ {
			for side, b := range []impl.Box{box(5-by, 0, 9, 9), box(0, 7-by, 9, 9), box(0, 0, 5+by, 9), box(0, 0, 9, 7+by)} {
				want := m
				if by < 0 {
					want = impl.Map{}
				}
				if got := impl.Crop(m, b); !sameMap(got, want) {
					t.Error(side, by, got)
				}
			}
		}
		for _, b := range []impl.Box{box(5, 7, 5, 7), box(5, 0, 5, 9), box(0, 7, 9, 7)} {
			if got := impl.Crop(m, b); !sameMap(got, m) {
				t.Error("a box of no width", b, got)
			}
		}
	}
}

// In a box whose High is below its Low lies nothing, be it so in both or in one.
func TestCropsOfWrongBoxes(t *testing.T) {
	m := town()
	for _, b := range []impl.Box{
		box(100, 100, -100, -100), box(100, -100, -100, 100), box(-100, 100, 100, -100),
		box(11, 9, 9, 11), box(9, 11, 11, 9), box(10, 11, 10, 10), box(11, 10, 10, 10), box(10, 10, 10, 9), box(10, 10, 9, 10),
		box(math.MaxInt64, math.MaxInt64, math.MinInt64, math.MinInt64),
	} {
		checkCrop(t, "a box that holds nothing", m, b, nil, nil, nil)
	}
}

// A box is asked only what lies in it: its corners need be no Points that can be.
func TestCropsOfGreatBoxes(t *testing.T) {
	m := town()
	m.Nodes[7] = node(9, impl.MaxCoord, -impl.MaxCoord, "name", "End")
	want := cropOf(m, box(-impl.MaxCoord, -impl.MaxCoord, impl.MaxCoord, impl.MaxCoord))
	if len(want.Nodes) != 7 {
		t.Fatal("asked wrongly")
	}
	for _, b := range []impl.Box{
		box(-impl.MaxCoord, -impl.MaxCoord, impl.MaxCoord, impl.MaxCoord),
		box(-impl.MaxCoord-1, -impl.MaxCoord-1, impl.MaxCoord+1, impl.MaxCoord+1),
		box(math.MinInt64, math.MinInt64, math.MaxInt64, math.MaxInt64),
	} {
		if got := impl.Crop(m, b); !sameMap(got, want) {
			t.Error(b, got)
		}
	}
}

func TestToldAgainstTheWords(t *testing.T) {
	tell := numbers(23)
	for range 4000 {
		m := someMap(tell)
		for id := int64(-1); id <= 18; id++ {
			if got := impl.WayRow(m, id); !slices.Equal(got, rowOf(m, id)) {
				t.Fatal("WayRow", m, id, got)
			}
			if got := impl.UsersOf(m, id); !slices.Equal(got, usersOf(m, id)) {
				t.Fatal("UsersOf", m, id, got)
			}
		}
		if got := impl.Unused(m); !slices.Equal(got, unusedOf(m)) {
			t.Fatal("Unused", m, got)
		}
		for range 5 {
			checkCropAgainstTheWords(t, m, impl.Box{Low: somewhere(tell, 6), High: somewhere(tell, 6)})
		}
	}
}

// What is cropped is a map that can be, and of it the same box has all.
func checkCropAgainstTheWords(t *testing.T, m impl.Map, b impl.Box) {
	t.Helper()
	got := impl.Crop(m, b)
	if !sameMap(got, cropOf(m, b)) {
		t.Fatal("Crop", m, b, got)
	}
	if !impl.MapOk(got) || !sameMap(impl.Crop(got, b), got) || len(impl.Unused(got)) != 0 {
		t.Fatal("the crop is no map to crop again", m, b, got)
	}
}

// As much of everything as may be.
func TestFullMaps(t *testing.T) {
	m := full()
	if row := impl.WayRow(m, 1000); len(row) != impl.MaxRow || row[0] != at(999, 0) || row[1999] != at(1000, 0) {
		t.Error("WayRow", len(row))
	}
	checkIds(t, "UsersOf", impl.UsersOf(m, 500), 499, 500)
	if unused := impl.Unused(m); len(unused) != 3999 || unused[0] != 1002 || unused[3998] != 5000 {
		t.Error("Unused", len(unused))
	}
	got := impl.Crop(m, box(-1, -1, 30, 1))
	if len(got.Nodes) != 32 || len(got.Ways) != 31 || len(got.Areas) != 2 || len(got.Areas[1].Parts) != impl.MaxTags {
		t.Error("Crop", len(got.Nodes), len(got.Ways), len(got.Areas))
	}
}

func TestNothingIsToldOfNoMap(t *testing.T) {
	eachFault(func(name string, m impl.Map) {
		for _, id := range []int64{1, 2, 3, 5, 6, 9} {
			if row := impl.WayRow(m, id); len(row) != 0 {
				t.Error("WayRow,", name, row)
			}
			checkIds(t, "UsersOf, "+name, impl.UsersOf(m, id))
		}
		checkIds(t, "Unused, "+name, impl.Unused(m))
		for _, b := range []impl.Box{box(-100, -100, 100, 100), box(25, 25, 35, 35), box(1, 1, 0, 0)} {
			if got := impl.Crop(m, b); !sameMap(got, impl.Map{}) {
				t.Error("Crop,", name, got)
			}
		}
	})
}
