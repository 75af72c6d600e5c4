package tests

import (
	"slices"
	"testing"

	"loop.example/g00024/impl"
)

// Promise 5: a cover has the box.

func wholePlane() impl.Box {
	return box(-impl.MaxCoord, -impl.MaxCoord, impl.MaxCoord, impl.MaxCoord)
}

func TestCoverOfOnePoint(t *testing.T) {
	const m = impl.MaxCoord
	for _, p := range path(0, 0, 1, 2, -1, -1, m, m, -m, -m, m, -m, -m, m, m, 0, 12345, -54321) {
		for _, most := range []int64{4, 5, 50, impl.MaxCells} {
			checkCover(t, "one point", impl.Box{Low: p, High: p}, most, cell(mixed(p), 25))
		}
	}
}

func TestCoverOfAllPoints(t *testing.T) {
	four := []impl.Cell{cell(0, 1), cell(1, 1), cell(2, 1), cell(3, 1)}
	for most := int64(4); most < 7; most++ {
		checkCover(t, "all points", wholePlane(), most, four...)
	}
	// The first gives way, then those of its level, and only then the parts of the first.
	seven := append([]impl.Cell{cell(0, 2), cell(1, 2), cell(2, 2), cell(3, 2)}, four[1:]...)
	for most := int64(7); most < 10; most++ {
		checkCover(t, "all points", wholePlane(), most, seven...)
	}
	ten := slices.Concat(seven[:4], []impl.Cell{cell(4, 2), cell(5, 2), cell(6, 2), cell(7, 2)}, four[2:])
	checkCover(t, "all points", wholePlane(), 10, ten...)
	checkCover(t, "all points", wholePlane(), 12, ten...)
	// At level 2 the four in the middle lie in the box, so those of the next level begin with the first corner.
	var sixteen []impl.Cell
	for code := range uint64(16) {
		sixteen = append(sixteen, cell(code, 2))
	}
	checkCover(t, "all points", wholePlane(), 16, sixteen...)
	checkCover(t, "all points", wholePlane(), 18, sixteen...)
	// Of the first corner's parts only the last reaches the box, and so it is for the other corners: by one part each they cost nothing.
	got := impl.Cover(wholePlane(), 19)
	if len(got) < 16 || len(got) > 19 || got[0].Level < 3 || !slices.Contains(got, cell(3, 2)) || !slices.Contains(got, cell(12, 2)) {
		t.Error(got)
	}
}

func TestWhichCellGivesWay(t *testing.T) {
	// Two quarters alone: with 4 they stay, with 5 both go down to where they lie in the box.
	level := box(-1, 0, 0, 0)
	checkCover(t, "two points", level, 4, cell(2, 1), cell(3, 1))
	checkCover(t, "two points", level, 5, cell(mixed(at(-1, 0)), 25), cell(mixed(at(0, 0)), 25))
	// Four points around the origin: the four quarters stay till there is room for one more.
	around := box(-1, -1, 0, 0)
	for most := int64(4); most < 7; most++ {
		checkCover(t, "four points", around, most, cell(0, 1), cell(1, 1), cell(2, 1), cell(3, 1))
	}
	checkCover(t, "four points", around, 7, cell(mixed(at(-1, -1)), 25), cell(mixed(at(0, -1)), 25), cell(mixed(at(-1, 0)), 25), cell(mixed(at(0, 0)), 25))
	// Cells in the box never give way, though they are the first of the least level.
	checkCover(t, "room is gone", box(0, 0, 4, 1), 5, cell(middle>>2, 24), cell(middle>>2+1, 24), cell(middle>>4+1, 23))
	checkCover(t, "inside stays", box(0, 0, 4, 1), 6, cell(middle>>2, 24), cell(middle>>2+1, 24), cell(mixed(at(4, 0)), 25), cell(mixed(at(4, 1)), 25))
	checkCover(t, "inside stays", box(0, 0, 4, 1), impl.MaxCells, cell(middle>>2, 24), cell(middle>>2+1, 24), cell(mixed(at(4, 0)), 25), cell(mixed(at(4, 1)), 25))
	// Of two that reach beyond the box the first gives way, though the second has more room beyond.
	checkCover(t, "the last stays", box(0, 0, 4, 2), 4, cell(middle>>4, 23), cell(middle>>4+1, 23))
	checkCover(t, "the first of the least level", box(0, 0, 4, 2), 5, cell(middle>>2, 24), cell(middle>>2+1, 24), cell(middle>>2+2, 24), cell(middle>>2+3, 24), cell(middle>>4+1, 23))
}

func TestThinCovers(t *testing.T) {
	var upright, level []impl.Cell
	for i := range int64(10) {
		upright = append(upright, cell(mixed(at(0, i)), 25))
		level = append(level, cell(mixed(at(i, 0)), 25))
	}
	for _, most := range []int64{30, impl.MaxCells} {
		checkCover(t, "upright", box(0, 0, 0, 9), most, upright...)
		checkCover(t, "level", box(0, 0, 9, 0), most, level...)
	}
	const m = impl.MaxCoord
	for _, b := range []impl.Box{box(-m, 0, m, 0), box(0, -m, 0, m), box(m, -m, m, m), box(-m, -m, m, -m), box(-m, m, m, m), box(-m, -m, -m, m), box(-m, -1, m, 0), box(m-1, m-1, m, m)} {
		for most := int64(3); most <= impl.MaxCells+1; most++ {
			checkCover(t, "thin", b, most, coverOf(b, most)...)
		}
	}
}

func TestHowManyCells(t *testing.T) {
	b := box(-1000, -77, 5000, 123456)
	for _, most := range []int64{3, 2, 1, 0, -1, -4, impl.MaxCells + 1, impl.MaxCells + 2} {
		checkCover(t, "no most", b, most)
		checkCover(t, "no most", box(0, 0, 0, 0), most)
	}
	for _, most := range strange() {
		checkCover(t, "no most", b, most)
	}
	for most := int64(4); most <= impl.MaxCells; most++ {
		got := impl.Cover(b, most)
		if count := int64(len(got)); count > most || count < most-2 {
			t.Error(most, "gives", count)
		}
		checkCover(t, "most", b, most, coverOf(b, most)...)
	}
}

func TestBoxesWithoutACover(t *testing.T) {
	const m = impl.MaxCoord
	checkCover(t, "Low above High in x", box(1, 0, 0, 5), 50)
	checkCover(t, "Low above High in y", box(0, 1, 5, 0), 50)
	checkCover(t, "Low above High in both", box(1, 1, 0, 0), 50)
	checkCover(t, "the greatest, turned", box(m, m, -m, -m), 50)
	for _, p := range outside() {
		checkCover(t, "no Low", impl.Box{Low: p, High: at(m, m)}, 50)
		checkCover(t, "no High", impl.Box{Low: at(-m, -m), High: p}, 50)
		checkCover(t, "neither", impl.Box{Low: p, High: p}, 50)
	}
	checkCover(t, "one beyond", box(-m-1, -m, m, m), 50)
	checkCover(t, "one beyond", box(-m, -m-1, m, m), 50)
	checkCover(t, "one beyond", box(-m, -m, m+1, m), 50)
	checkCover(t, "one beyond", box(-m, -m, m, m+1), 50)
}

// cellsWith counts the cells that have a point, by its code.
func cellsWith(cover []impl.Cell, p impl.Point) int {
	count, code := 0, mixed(p)
	for _, c := range cover {
		if code>>(50-2*c.Level) == c.Code {
			count++
		}
	}
	return count
}

func checkCovers(t *testing.T, b impl.Box, most int64, cover []impl.Cell) {
	t.Helper()
	for i, c := range cover {
		if c.Level < 0 || c.Level > 25 || c.Code>>(2*c.Level) != 0 || !quartersOf(c).meets(b) {
			t.Fatal(b, most, "can't have", c)
		}
		if i == 0 {
			continue
		}
		// Ascending, and the cell ahead ends before this one begins.
		ahead := cover[i-1]
		if last := (ahead.Code+1)<<(50-2*ahead.Level) - 1; last >= c.Code<<(50-2*c.Level) {
			t.Fatal(b, most, ahead, "is not ahead of", c)
		}
	}
}

func TestCoversHaveTheBox(t *testing.T) {
	tell := numbers(53)
	for i := range 4000 {
		b := someBox(tell, []int64{2, 20, 3000, 500000, impl.MaxCoord}[i%5])
		most := 4 + tell.Int63n(impl.MaxCells-3)
		if i%7 == 0 {
			most = 4 + tell.Int63n(12)
		}
		cover := impl.Cover(b, most)
		checkCovers(t, b, most, cover)
		ps := corners(b)
		for range 20 {
			ps = append(ps, at(b.Low.X+tell.Int63n(b.High.X-b.Low.X+1), b.Low.Y+tell.Int63n(b.High.Y-b.Low.Y+1)))
		}
		for _, p := range ps {
			if count := cellsWith(cover, p); count != 1 {
				t.Fatal(b, most, p, "lies in", count, "cells")
			}
		}
	}
}

// Every point of small boxes is asked for, and what lies beside them where the cover is fine enough.
func TestCoversOfSmallBoxes(t *testing.T) {
	tell := numbers(54)
	for range 300 {
		b := someBox(tell, 6)
		cover := impl.Cover(b, impl.MaxCells)
		for x := b.Low.X - 2; x <= b.High.X+2; x++ {
			for y := b.Low.Y - 2; y <= b.High.Y+2; y++ {
				want := 0
				if x >= b.Low.X && x <= b.High.X && y >= b.Low.Y && y <= b.High.Y {
					want = 1
				}
				// At most 13 by 13 points: their cover ends at the edges of the box.
				if got := cellsWith(cover, at(x, y)); got != want {
					t.Fatal(b, at(x, y), "lies in", got, "cells")
				}
			}
		}
	}
}

func TestCoverAgainstTheWords(t *testing.T) {
	tell := numbers(55)
	for i := range 3000 {
		b := someBox(tell, []int64{2, 9, 100, 100000, impl.MaxCoord}[i%5])
		most := []int64{4, 5, 6, 7, 8, 3 + tell.Int63n(30), 3 + tell.Int63n(200)}[i%7]
		checkCover(t, "by chance", b, most, coverOf(b, most)...)
	}
}
