package tests

import (
	"math"
	"slices"
	"testing"

	"loop.example/g00024/impl"
)

// Promise 19, of chapter 5: every function answers at every argument and none panics; answers are new memory; arguments stay.

type boxAndMost struct {
	Box  impl.Box
	Most int64
}

type rowAndBox struct {
	Row []impl.Point
	Box impl.Box
}

type rowPointAndCount struct {
	Row   []impl.Point
	Point impl.Point
	Count int64
}

func askCover(a boxAndMost) []impl.Cell { return impl.Cover(a.Box, a.Most) }

func askInBox(a rowAndBox) []int64 { return impl.InBox(a.Row, a.Box) }

func askNearest(a rowPointAndCount) []int64 { return impl.Nearest(a.Row, a.Point, a.Count) }

func placesToGuard() [][]impl.Point {
	tell := numbers(58)
	rows := [][]impl.Point{nil, {}, path(1, 1), path(3, 3, 1, 1, 2, 2, 3, 3), stairs(impl.MaxRow), stairs(impl.MaxRow + 1)}
	for i := range 60 {
		rows = append(rows, someRow(tell, tell.Intn(30), []int64{3, impl.MaxCoord}[i%2]))
	}
	return append(rows, noRows()[1:8]...)
}

func TestPlacesStayAndNumbersAreNew(t *testing.T) {
	for _, row := range placesToGuard() {
		checkMemory(t, "SortSpace", row, impl.SortSpace)
		for _, b := range []impl.Box{wholePlane(), box(0, 0, 2, 2), box(2, 2, 0, 0)} {
			checkMemory(t, "InBox", rowAndBox{row, b}, askInBox)
		}
		for _, n := range []int64{-1, 0, 1, 2, 30, math.MaxInt64} {
			checkMemory(t, "Nearest", rowPointAndCount{row, at(1, 1), n}, askNearest)
		}
		checkMemory(t, "Nearest", rowPointAndCount{row, outside()[0], 3}, askNearest)
	}
	for _, most := range []int64{3, 4, 9, impl.MaxCells, impl.MaxCells + 1} {
		checkMemory(t, "Cover", boxAndMost{wholePlane(), most}, askCover)
	}
}

// What was told before stays as it was, whatever is done to the row and to what is told later.
func TestNumbersDoNotFollow(t *testing.T) {
	row := path(3, 3, 1, 1, 2, 2, 3, 3)
	ask := func() [][]int64 {
		return [][]int64{impl.SortSpace(row), impl.InBox(row, wholePlane()), impl.Nearest(row, at(0, 0), 2), impl.Nearest(row, at(0, 0), 4)}
	}
	first := ask()
	kept := same(first)
	cover := impl.Cover(wholePlane(), 50)
	keptCover := slices.Clone(cover)
	for _, later := range ask() {
		clear(later)
		_ = append(later[:0], 9, 9, 9)
	}
	clear(impl.Cover(wholePlane(), 50))
	clear(row)
	for i := range first {
		checkNumbers(t, "told before", first[i], kept[i]...)
		_ = append(first[i], 77)
	}
	if !slices.Equal(cover, keptCover) {
		t.Error("a cover changed with another")
	}
}

func TestPlacesOfEveryKindAreAnswered(t *testing.T) {
	ps := append(strangePoints(), path(0, 0, 1, 1, 5, 5, 0, 1, 1, 0, 0, 0, 1, 1, 5, 5)...)
	for _, p := range ps {
		if got := impl.CodeOf(p); canBe(p) && got != mixed(p) || !canBe(p) && got != 0 {
			t.Fatal(p, got)
		}
	}
	all := append(strange(), 4, 5, 24, 25, 26, 200, 201)
	for _, n := range all {
		for _, level := range all {
			want := impl.Box{}
			if c := cell(uint64(n), level); level >= 0 && level <= 25 && c.Code < 1<<(2*level) {
				want = quartersOf(c).box()
			}
			checkBox(t, cell(uint64(n), level), want)
		}
		p, ok := impl.PointOf(uint64(n))
		if ok || p != at(0, 0) {
			t.Error(n, p)
		}
	}
}

func TestPlacesInRowsOfEveryKindAreAnswered(t *testing.T) {
	tell := numbers(59)
	good := path(0, 0, 1, 1, 5, 5, 0, 1, 1, 0, -1, 0, 7, -7, impl.MaxCoord, 0)
	bad, counts := strangePoints(), append(strange(), 2, 3, 4, 5, 50, impl.MaxCells)
	pick := func() impl.Point {
		if tell.Intn(12) == 0 {
			return bad[tell.Intn(len(bad))]
		}
		return good[tell.Intn(len(good))]
	}
	for range 20000 {
		row := make([]impl.Point, tell.Intn(6))
		for i := range row {
			row[i] = pick()
		}
		b, p, n := impl.Box{Low: pick(), High: pick()}, pick(), counts[tell.Intn(len(counts))]
		checkNumbers(t, "SortSpace", impl.SortSpace(row), sortedOf(row)...)
		checkNumbers(t, "InBox", impl.InBox(row, b), inBoxOf(row, b)...)
		checkNumbers(t, "Nearest", impl.Nearest(row, p, n), nearestOf(row, p, n)...)
		checkCover(t, "Cover", b, n, coverOf(b, n)...)
		if t.Failed() {
			t.Fatal(row, b, p, n)
		}
	}
}

func TestTheSamePlacesAreAnsweredAgain(t *testing.T) {
	for _, row := range placesToGuard() {
		sorted, in, near := impl.SortSpace(row), impl.InBox(row, box(0, 0, 2, 2)), impl.Nearest(row, at(1, 1), 5)
		cover := impl.Cover(box(-5, 3, 77, 9), 30)
		impl.Cover(wholePlane(), 44)
		impl.SortSpace(path(9, 9, 8, 8))
		checkNumbers(t, "SortSpace", impl.SortSpace(row), sorted...)
		checkNumbers(t, "InBox", impl.InBox(row, box(0, 0, 2, 2)), in...)
		checkNumbers(t, "Nearest", impl.Nearest(row, at(1, 1), 5), near...)
		checkCover(t, "Cover", box(-5, 3, 77, 9), 30, cover...)
	}
}
