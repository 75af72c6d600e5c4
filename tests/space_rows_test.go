package tests

import (
	"math"
	"slices"
	"testing"

	"loop.example/g00024/impl"
)

// Promise 5: what lies near each other stands near each other, a box has just what lies in it.

func TestSortSpace(t *testing.T) {
	const m = impl.MaxCoord
	checkNumbers(t, "none", impl.SortSpace(nil))
	checkNumbers(t, "none", impl.SortSpace([]impl.Point{}))
	checkNumbers(t, "one", impl.SortSpace(path(5, 5)), 0)
	checkNumbers(t, "quarters", impl.SortSpace(path(m, m, -m, m, m, -m, -m, -m)), 3, 2, 1, 0)
	checkNumbers(t, "across the origin", impl.SortSpace(path(0, 0, -1, 0, 0, -1, -1, -1)), 3, 2, 1, 0)
	checkNumbers(t, "y counts above x", impl.SortSpace(path(0, 1, 1, 0, 0, 0, 1, 1, 2, 0, 0, 2)), 2, 1, 0, 3, 4, 5)
	checkNumbers(t, "the same", impl.SortSpace(path(3, 3, 3, 3, 1, 1, 3, 3, 1, 1, 3, 3)), 2, 4, 0, 1, 3, 5)
	checkNumbers(t, "near in the plane, apart in code", impl.SortSpace(path(7, 7, 8, 8, 8, 7, 7, 8)), 0, 2, 3, 1)
}

func TestSortSpaceOfAsManyAsMayBe(t *testing.T) {
	row := stairs(impl.MaxRow)
	slices.Reverse(row)
	got := impl.SortSpace(row)
	if len(got) != impl.MaxRow || got[0] != impl.MaxRow-1 || got[impl.MaxRow-1] != 0 {
		t.Error(len(got))
	}
	var alike []impl.Point
	for i := range impl.MaxRow {
		alike = append(alike, at(int64(i%3), 0))
	}
	checkNumbers(t, "many alike", impl.SortSpace(alike), sortedOf(alike)...)
	for _, row := range noRows() {
		checkNumbers(t, "no row", impl.SortSpace(row))
	}
}

func TestInBox(t *testing.T) {
	b := box(-10, 20, 30, 40)
	// Each corner and a place on each edge, and one beyond each of them.
	on := path(-10, 20, 30, 20, 30, 40, -10, 40, 0, 20, 30, 25, 5, 40, -10, 33, 1, 30)
	beyond := path(-11, 20, -10, 19, 31, 20, 30, 19, 31, 40, 30, 41, -11, 40, -10, 41, 0, 19, 31, 25, 5, 41, -11, 33, 100, 30, 0, 0)
	for i, p := range on {
		checkNumbers(t, "in the box", impl.InBox([]impl.Point{p}, b), 0)
		checkNumbers(t, "in the box, behind one beyond", impl.InBox([]impl.Point{beyond[i], p}, b), 1)
	}
	for _, p := range beyond {
		checkNumbers(t, "beyond", impl.InBox([]impl.Point{p}, b))
	}
	checkNumbers(t, "the order of codes", impl.InBox(path(0, 1, 99, 0, 1, 0, 0, 0, -5, 0, 1, 1), box(0, 0, 5, 5)), 3, 2, 0, 5)
	checkNumbers(t, "the same", impl.InBox(path(3, 3, 9, 9, 1, 1, 3, 3, 1, 1), box(0, 0, 5, 5)), 2, 4, 0, 3)
	checkNumbers(t, "a box of one point", impl.InBox(path(3, 3, 3, 4, 3, 3, 4, 3), box(3, 3, 3, 3)), 0, 2)
	checkNumbers(t, "none", impl.InBox(nil, b))
}

func TestBoxesOfEveryKind(t *testing.T) {
	const m = impl.MaxCoord
	ps := path(0, 0, m, m, -m, -m, m, -m, -m, m)
	checkNumbers(t, "all points", impl.InBox(ps, wholePlane()), 2, 3, 4, 0, 1)
	// No word asks for corners that can be: the box has what lies between them.
	checkNumbers(t, "corners that can't be", impl.InBox(ps, box(math.MinInt64, math.MinInt64, math.MaxInt64, math.MaxInt64)), 2, 3, 4, 0, 1)
	checkNumbers(t, "Low can't be", impl.InBox(ps, box(-m-1, -m-1, 0, 0)), 2, 0)
	checkNumbers(t, "High can't be", impl.InBox(ps, box(0, 0, m+1, m+1)), 0, 1)
	checkNumbers(t, "wholly beyond", impl.InBox(ps, box(m+1, m+1, m+2, m+2)))
	checkNumbers(t, "Low above High in x", impl.InBox(ps, box(1, -5, -1, 5)))
	checkNumbers(t, "Low above High in y", impl.InBox(ps, box(-5, 1, 5, -1)))
	checkNumbers(t, "Low above High in both", impl.InBox(ps, box(m, m, -m, -m)))
	for _, row := range noRows() {
		checkNumbers(t, "no row", impl.InBox(row, wholePlane()))
		checkNumbers(t, "no row", impl.InBox(row, box(math.MinInt64, math.MinInt64, math.MaxInt64, math.MaxInt64)))
	}
	if got := impl.InBox(stairs(impl.MaxRow), wholePlane()); len(got) != impl.MaxRow {
		t.Error(len(got))
	}
	checkNumbers(t, "MaxRow, the last", impl.InBox(stairs(impl.MaxRow), box(impl.MaxRow-1, 0, m, 0)), impl.MaxRow-1)
}

func TestNearest(t *testing.T) {
	ps := path(10, 0, 0, 3, 5, 5, 0, -3, -1, 0, 3, 0, -3, 0)
	order := []int64{4, 1, 3, 5, 6, 2, 0}
	for n := range int64(10) {
		checkNumbers(t, "how many", impl.Nearest(ps, at(0, 0), n), order[:min(n, 7)]...)
	}
	for _, n := range strange() {
		want := order
		if n < 7 {
			want = order[:max(n, 0)]
		}
		checkNumbers(t, "how many", impl.Nearest(ps, at(0, 0), n), want...)
	}
	checkNumbers(t, "none there", impl.Nearest(nil, at(0, 0), 5))
	checkNumbers(t, "one", impl.Nearest(path(7, 7), at(-7, -7), 1), 0)
	checkNumbers(t, "itself", impl.Nearest(path(7, 8, 7, 7, 6, 7), at(7, 7), 3), 1, 0, 2)
	checkNumbers(t, "the same points", impl.Nearest(path(9, 9, 1, 1, 9, 9, 1, 1), at(0, 0), 3), 1, 3, 0)
	// Not by the rounded distance: 1000 and a little, the squares differ by 1.
	checkNumbers(t, "squares", impl.Nearest(path(1000, 1, 1000, 0), at(0, 0), 2), 1, 0)
}

func TestNearestAtTheGreatestDistances(t *testing.T) {
	const m = impl.MaxCoord
	ps := path(m, m, m, m-1, m-1, m, -m, m, m, -m, -m, -m)
	checkNumbers(t, "far", impl.Nearest(ps, at(-m, -m), 6), 5, 3, 4, 1, 2, 0)
	checkNumbers(t, "far, from above", impl.Nearest(ps, at(m, m), 6), 0, 1, 2, 3, 4, 5)
	for _, p := range outside() {
		checkNumbers(t, "no point", impl.Nearest(ps, p, 3))
		checkNumbers(t, "no point, no row", impl.Nearest(nil, p, 3))
	}
	for _, row := range noRows() {
		checkNumbers(t, "no row", impl.Nearest(row, at(0, 0), 1))
		checkNumbers(t, "no row", impl.Nearest(row, at(0, 0), impl.MaxRow+1))
	}
	row := stairs(impl.MaxRow)
	checkNumbers(t, "MaxRow", impl.Nearest(row, at(impl.MaxRow, 0), 2), impl.MaxRow-1, impl.MaxRow-2)
	if got := impl.Nearest(row, at(5, 5), impl.MaxRow+1); len(got) != impl.MaxRow || got[0] != 5 || got[1] != 4 || got[2] != 6 {
		t.Error(len(got))
	}
}

func TestRowsAgainstTheWords(t *testing.T) {
	tell := numbers(56)
	inside := 0
	for i := range 6000 {
		size := []int64{2, 5, 100, impl.MaxCoord}[i%4]
		ps := someRow(tell, tell.Intn(40), size)
		b, p, n := someBox(tell, size), somewhere(tell, size), tell.Int63n(50)-3
		checkNumbers(t, "SortSpace", impl.SortSpace(ps), sortedOf(ps)...)
		checkNumbers(t, "InBox", impl.InBox(ps, b), inBoxOf(ps, b)...)
		checkNumbers(t, "Nearest", impl.Nearest(ps, p, n), nearestOf(ps, p, n)...)
		inside += len(inBoxOf(ps, b))
		if t.Failed() {
			t.Fatal(ps, b, p, n)
		}
	}
	if inside < 5000 {
		t.Error("too few lie in a box:", inside)
	}
}

// What lies in a box is what lies in its cover and, asked for point by point, between its edges.
func TestCoversAndBoxesSayTheSame(t *testing.T) {
	tell := numbers(57)
	for i := range 500 {
		size := []int64{20, 100000, impl.MaxCoord}[i%3]
		ps, b := someRow(tell, 100, size), someBox(tell, size)
		in := impl.InBox(ps, b)
		cover := impl.Cover(b, 4+tell.Int63n(197))
		for k, p := range ps {
			if slices.Contains(in, int64(k)) && cellsWith(cover, p) != 1 {
				t.Fatal(b, p, "is not in the cover")
			}
		}
	}
}
