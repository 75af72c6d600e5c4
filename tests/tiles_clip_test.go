package tests

import (
	"math"
	"math/big"
	"math/rand"
	"slices"
	"testing"

	"loop.example/g00024/impl"
)

// Promise 6, of Clip: what of a row lies in a box, cut so that boxes beside each other join.

// frame is the box of most cases.
func frame() impl.Box { return box(0, 0, 20, 10) }

func TestClipOfWhatLiesInside(t *testing.T) {
	for _, row := range [][]impl.Point{
		path(1, 1, 5, 5, 19, 9), path(5, 5, 6, 6), path(0, 0, 20, 10), path(0, 10, 20, 0), path(0, 5, 20, 5, 10, 0, 10, 10),
		path(0, 0, 20, 0, 20, 10, 0, 10, 0, 0), path(3, 3, 9, 9, 3, 3, 9, 9), path(5, 5, 0, 5, 5, 6), path(20, 0, 20, 10),
	} {
		checkClip(t, "inside", row, frame(), row)
	}
	checkClip(t, "no points", nil, frame())
	checkClip(t, "no points", []impl.Point{}, frame())
	// A row of one point has no stretch.
	checkClip(t, "one point", path(5, 5), frame())
	checkClip(t, "one point on an edge", path(0, 5), frame())
	checkClip(t, "one point outside", path(-1, 5), frame())
}

func TestClipOfWhatLiesOutside(t *testing.T) {
	for _, row := range [][]impl.Point{
		path(-5, 0, -1, 10), path(21, 0, 25, 10), path(0, -5, 20, -1), path(0, 11, 20, 15), path(-1, 0, -1, 10), path(21, 10, 21, 0), path(0, -1, 20, -1),
		path(0, 11, 20, 11), path(-5, -5, -1, -1), path(21, 11, 30, 40), path(-1, 11, -8, 12), path(21, -1, 22, -8), path(-5, 5, -5, 50, 50, 50, 50, -9, -9, -9),
		// Past a corner.
		path(-5, 8, 5, 18), path(-5, 3, 5, -7), path(15, -7, 25, 3), path(15, 18, 25, 8),
		// On the line of an edge.
		path(21, 0, 25, 0), path(-5, 10, -1, 10), path(0, 11, 0, 15), path(20, -5, 20, -1),
	} {
		checkClip(t, "outside", row, frame())
	}
}

func TestClipOverEdges(t *testing.T) {
	checkClip(t, "the lower X", path(-10, 0, 10, 5), frame(), path(0, 2, 10, 5))
	checkClip(t, "the upper X", path(10, 0, 30, 5), frame(), path(10, 0, 20, 2))
	checkClip(t, "the lower Y", path(3, -5, 10, 5), frame(), path(6, 0, 10, 5))
	checkClip(t, "the upper Y", path(3, 5, 10, 15), frame(), path(3, 5, 6, 10))
	checkClip(t, "both X", path(-10, 0, 30, 10), frame(), path(0, 2, 20, 7))
	checkClip(t, "both Y", path(0, -5, 20, 15), frame(), path(5, 0, 15, 10))
	checkClip(t, "level", path(-7, 4, 33, 4), frame(), path(0, 4, 20, 4))
	checkClip(t, "upright", path(7, -4, 7, 33), frame(), path(7, 0, 7, 10))
	checkClip(t, "two beside each other", path(-5, 3, 10, 18), frame(), path(0, 8, 2, 10))
	checkClip(t, "two beside each other", path(-5, 7, 10, -8), frame(), path(0, 2, 2, 0))
	checkClip(t, "two beside each other", path(10, -8, 25, 7), frame(), path(18, 0, 20, 2))
	checkClip(t, "two beside each other", path(10, 18, 25, 3), frame(), path(18, 10, 20, 8))
	checkClip(t, "two, from beyond both", path(-20, -5, 10, 5), frame(), path(0, 1, 10, 5))
	checkClip(t, "two, from beyond both", path(-5, -20, 10, 5), frame(), path(7, 0, 10, 5))
	checkClip(t, "four, from beyond all", path(-13, -8, 33, 20), frame(), path(0, 0, 16, 10))
}

func TestClipOverCorners(t *testing.T) {
	checkClip(t, "one corner", path(-5, -5, 5, 5), frame(), path(0, 0, 5, 5))
	checkClip(t, "one corner", path(25, -5, 15, 5), frame(), path(20, 0, 15, 5))
	checkClip(t, "one corner", path(25, 15, 15, 5), frame(), path(20, 10, 15, 5))
	checkClip(t, "one corner", path(-5, 15, 5, 5), frame(), path(0, 10, 5, 5))
	checkClip(t, "two corners", path(-10, -5, 30, 15), frame(), path(0, 0, 20, 10))
	checkClip(t, "two corners", path(-10, 15, 30, -5), frame(), path(0, 10, 20, 0))
	// Touching alone does not count.
	checkClip(t, "touching", path(-5, 5, 5, -5), frame())
	checkClip(t, "touching", path(15, -5, 25, 5), frame())
	checkClip(t, "touching", path(15, 15, 25, 5), frame())
	checkClip(t, "touching", path(-5, 5, 5, 15), frame())
	checkClip(t, "ending there", path(-5, -5, 0, 0), frame())
	checkClip(t, "ending there", path(25, -5, 20, 0), frame())
	checkClip(t, "ending there", path(25, 15, 20, 10), frame())
	checkClip(t, "ending there", path(-5, 15, 0, 10), frame())
	checkClip(t, "ending there, level", path(-5, 0, 0, 0), frame())
	checkClip(t, "ending there, upright", path(20, 15, 20, 10), frame())
}

func TestClipAlongEdges(t *testing.T) {
	checkClip(t, "along", path(-5, 0, 25, 0), frame(), path(0, 0, 20, 0))
	checkClip(t, "along", path(-5, 10, 25, 10), frame(), path(0, 10, 20, 10))
	checkClip(t, "along", path(0, -5, 0, 25), frame(), path(0, 0, 0, 10))
	checkClip(t, "along", path(20, -5, 20, 25), frame(), path(20, 0, 20, 10))
	checkClip(t, "a part of it", path(3, 0, 7, 0), frame(), path(3, 0, 7, 0))
	checkClip(t, "a part of it", path(20, 3, 20, 7), frame(), path(20, 3, 20, 7))
	checkClip(t, "from beyond", path(-5, 10, 7, 10), frame(), path(0, 10, 7, 10))
	checkClip(t, "from beyond", path(0, 12, 0, 7), frame(), path(0, 10, 0, 7))
	checkClip(t, "to an edge and along it", path(-5, 5, 0, 5, 0, 8, -5, 8), frame(), path(0, 5, 0, 8))
	checkClip(t, "an end on it, the other beyond", path(0, 5, -5, 7), frame())
	checkClip(t, "an end on it, the other beyond", path(20, 5, 25, 5), frame())
	checkClip(t, "an end on it, the other beyond", path(5, 0, 8, -5), frame())
	checkClip(t, "an end on it, the other beyond", path(5, 10, 5, 11), frame())
	checkClip(t, "an end on it, the other inside", path(0, 5, 5, 7), frame(), path(0, 5, 5, 7))
	checkClip(t, "an end on it, over the opposite one", path(0, 5, 40, 7), frame(), path(0, 5, 20, 6))
	checkClip(t, "an end on its line, the other over another", path(0, -10, 10, 10), frame(), path(5, 0, 10, 10))
}

func TestClipOfOnePointStretches(t *testing.T) {
	for _, p := range append(corners(frame()), at(5, 5)) {
		checkClip(t, "in the box", []impl.Point{p, p}, frame(), []impl.Point{p, p})
		checkClip(t, "in the box, twice", []impl.Point{p, p, p}, frame(), []impl.Point{p, p, p})
	}
	for _, p := range path(-1, 5, 21, 5, 5, -1, 5, 11, -1, -1, 21, 11, -1, 10, 20, -1, 500, 500) {
		checkClip(t, "outside", []impl.Point{p, p}, frame())
	}
	checkClip(t, "ahead of another", path(5, 5, 5, 5, 6, 6), frame(), path(5, 5, 5, 5, 6, 6))
	checkClip(t, "between others", path(-5, 5, 5, 5, 5, 5, 25, 5), frame(), path(0, 5, 5, 5, 5, 5, 20, 5))
	// Of the stretches that come and go nothing counts, of the one that stays it does.
	checkClip(t, "between others that only touch", path(-5, 5, 0, 5, 0, 5, -5, 5), frame(), path(0, 5, 0, 5))
	checkClip(t, "on the edge, behind others", path(5, 5, 0, 5, 0, 5, -5, 5), frame(), path(5, 5, 0, 5, 0, 5))
	checkClip(t, "on the edge, twice", path(0, 5, 0, 5, -5, 5, 0, 5, 0, 5), frame(), path(0, 5, 0, 5), path(0, 5, 0, 5))
}

func TestClipInSeveralRows(t *testing.T) {
	checkClip(t, "away and back", path(5, 2, 25, 2, 25, 8, 5, 8), frame(), path(5, 2, 20, 2), path(20, 8, 5, 8))
	checkClip(t, "three", path(5, -5, 5, 5, 5, 15, 8, 15, 8, -15, 11, -15, 11, 5), frame(), path(5, 0, 5, 5, 5, 10), path(8, 10, 8, 0), path(11, 0, 11, 5))
	checkClip(t, "away and back, slanting", path(5, 5, 25, 5, 5, 9), frame(), path(5, 5, 20, 5), path(20, 6, 5, 9))
	// The one ends where the next begins: that is one row, though it was away meanwhile.
	checkClip(t, "away and back the same way", path(5, 5, 25, 5, 5, 5), frame(), path(5, 5, 20, 5, 5, 5))
	checkClip(t, "away slanting and back along an edge", path(10, 0, 30, 10, 10, 10), frame(), path(10, 0, 20, 5), path(20, 10, 10, 10))
	checkClip(t, "away and back the same way, rounded", path(10, 0, 30, 1, 10, 0), frame(), path(10, 0, 20, 0, 10, 0))
	checkClip(t, "through one point, by other ways", path(15, 5, 25, 6, 16, 5), frame(), path(15, 5, 20, 5, 16, 5))
	// A stretch without a part ends the row, wherever the next one begins.
	checkClip(t, "away, a stay there, and back", path(5, 5, 25, 5, 25, 5, 5, 5), frame(), path(5, 5, 20, 5), path(20, 5, 5, 5))
	checkClip(t, "away, farther, and back", path(5, 5, 25, 5, 30, 5, 25, 5, 5, 5), frame(), path(5, 5, 20, 5), path(20, 5, 5, 5))
	// So does one of which the part does not count.
	checkClip(t, "from the edge away and back", path(5, 5, 0, 5, -5, 5, 0, 5, 5, 6), frame(), path(5, 5, 0, 5), path(0, 5, 5, 6))
	checkClip(t, "one touch between", path(5, 5, 5, 10, 0, 15, -5, 5, 0, 5, 5, 5), frame(), path(5, 5, 5, 10), path(0, 5, 5, 5))
	checkClip(t, "touching and on inside", path(-5, 5, 0, 5, 5, 5), frame(), path(0, 5, 5, 5))
	checkClip(t, "round the box and in", path(-5, -5, 25, -5, 25, 15, -5, 15, -5, 5, 5, 5), frame(), path(0, 5, 5, 5))
}

func TestCrossingsAreRoundedDown(t *testing.T) {
	checkClip(t, "a half below 0", path(-10, -10, 10, -5), box(0, -20, 20, 0), path(0, -8, 10, -5))
	checkClip(t, "a half below 0, falling", path(-10, -5, 10, -10), box(0, -20, 20, 0), path(0, -8, 10, -10))
	checkClip(t, "a half above 0, falling", path(-10, 10, 10, 5), frame(), path(0, 7, 10, 5))
	checkClip(t, "below 0, with the upper X", path(-30, -1, 10, -2), box(-40, -9, -1, 0), path(-30, -1, -1, -2))
	checkClip(t, "below 0, with the lower Y", path(-10, -10, -5, 10), box(-20, 0, 20, 20), path(-8, 0, -5, 10))
	checkClip(t, "below 0, with the upper Y", path(-10, -10, -5, 10), box(-20, -20, 20, 0), path(-10, -10, -8, 0))
	checkClip(t, "from below 0 to above", path(-10, -1, 20, 1), box(0, -5, 30, 5), path(0, -1, 20, 1))
	checkClip(t, "from above 0 to below", path(-10, 1, 20, -1), box(0, -5, 30, 5), path(0, 0, 20, -1))
	checkClip(t, "whole numbers stay", path(-10, -10, 10, 10), box(-5, -20, 5, 20), path(-5, -5, 5, 5))
	const m = impl.MaxCoord
	checkClip(t, "the greatest", path(-m, -m, m, m), box(-1, -m, 1, m), path(-1, -1, 1, 1))
	checkClip(t, "the greatest, a little less", path(-m, -m, m, m-1), box(0, -m, m, m), path(0, -1, m, m-1))
	checkClip(t, "the greatest, a little less", path(-m, m, m, 1-m), box(0, -m, m, m), path(0, 0, m, 1-m))
	checkClip(t, "the greatest, steep", path(-1, -m, 1, m), box(-m, 1, m, m), path(0, 1, 1, m))
	checkClip(t, "the greatest, steep, below", path(-1, -m, 1, m), box(-m, -1, m, m), path(-1, -1, 1, m))
	checkClip(t, "the greatest, at its end", path(-m, -m, m, m-1), box(m-1, -m, m, m), path(m-1, m-2, m, m-1))
}

// Rounding down brings what lies less than one above the upper Y edge down to it.
func TestClipBesideTheUpperEdge(t *testing.T) {
	checkClip(t, "less than one above, all along", path(-10, 10, 30, 11), frame(), path(0, 10, 20, 10))
	checkClip(t, "one above and more", path(-10, 11, 30, 12), frame())
	checkClip(t, "less than one below the lower edge", path(-10, 0, 30, -1), frame())
	// One end rounded down to the edge, the other beyond: its crossing lies beside the box and is brought in, to the same point.
	checkClip(t, "falling to the east", path(-1000, 18, 1000, 4), frame())
	checkClip(t, "rising to the east", path(-50, 9, 50, 12), frame())
	checkClip(t, "rounded down on one side, inside on the other", path(-100, 12, 60, 4), frame(), path(0, 7, 20, 6))
	checkClip(t, "from above the edge to inside", path(-1, 11, 21, 3), frame(), path(0, 10, 20, 3))
	// The crossing with X 0 is (0, 10.6): it stays there, and does not go on to where Y is 10.
	checkClip(t, "rounded down, then inside", path(-1, 11, 9, 7), frame(), path(0, 10, 9, 7))
}

func TestClipToBoxesOfEveryKind(t *testing.T) {
	row := path(-5, -5, 5, 5, 5, 5, 15, 5, 3, -9)
	checkClip(t, "the greatest box", row, box(math.MinInt64, math.MinInt64, math.MaxInt64, math.MaxInt64), row)
	checkClip(t, "corners that can't be", row, box(-16777216, -16777216, 16777216, 16777216), row)
	checkClip(t, "open to the east and north", row, box(0, 0, math.MaxInt64, math.MaxInt64), path(0, 0, 5, 5, 5, 5, 15, 5, 10, 0))
	checkClip(t, "open to the west and south", row, box(math.MinInt64, math.MinInt64, 5, 5), path(-5, -5, 5, 5, 5, 5), path(5, -7, 3, -9))
	checkClip(t, "wholly beyond", row, box(math.MaxInt64-1, math.MaxInt64-1, math.MaxInt64, math.MaxInt64))
	checkClip(t, "wholly beyond", row, box(math.MinInt64, math.MinInt64, math.MinInt64, math.MinInt64))
	checkClip(t, "one beyond all points", row, box(impl.MaxCoord+1, -5, impl.MaxCoord+9, 5))
	for _, b := range []impl.Box{
		box(1, -9, 0, 9), box(-9, 1, 9, 0), box(1, 1, 0, 0), box(5, 5, 4, 5), box(5, 5, 5, 4),
		box(math.MaxInt64, 0, math.MinInt64, 9), box(0, math.MaxInt64, 9, math.MinInt64), box(impl.MaxCoord, impl.MaxCoord, -impl.MaxCoord, -impl.MaxCoord),
	} {
		checkClip(t, "Low above High", row, b)
		checkClip(t, "Low above High", path(5, 5, 5, 5), b)
	}
	// A box of one point has that alone, where a row stays there.
	checkClip(t, "one point", row, box(5, 5, 5, 5), path(5, 5, 5, 5))
	checkClip(t, "one point, passed", path(0, 0, 10, 10), box(5, 5, 5, 5))
	checkClip(t, "one point, passed level", path(0, 5, 10, 5), box(5, 5, 5, 5))
	checkClip(t, "one point, passed upright", path(5, 0, 5, 10), box(5, 5, 5, 5))
	checkClip(t, "one point, come to", path(0, 0, 5, 5, 9, 0), box(5, 5, 5, 5))
	checkClip(t, "one point, missed", path(0, 0, 9, 8), box(5, 5, 5, 5))
	checkClip(t, "one line, level", path(0, 0, 10, 10, 20, 10, 30, 0), box(5, 10, 15, 10), path(10, 10, 15, 10))
	checkClip(t, "one line, upright", path(0, 0, 10, 10, 10, 20, 30, 0), box(10, 5, 10, 15), path(10, 10, 10, 15))
}

func TestClipOfNoRow(t *testing.T) {
	for _, row := range noRows() {
		checkClip(t, "no row", row, wholePlane())
		checkClip(t, "no row", row, frame())
		checkClip(t, "no row", row, box(math.MinInt64, math.MinInt64, math.MaxInt64, math.MaxInt64))
	}
	row := stairs(impl.MaxRow)
	checkClip(t, "MaxRow", row, wholePlane(), row)
	checkClip(t, "MaxRow, the last", row, box(impl.MaxRow-2, 0, impl.MaxRow, 5), path(impl.MaxRow-2, 0, impl.MaxRow-1, 0))
	// To and fro over an edge, each time at another place: as many pieces as stretches.
	var wild []impl.Point
	for i := range int64(impl.MaxRow) {
		wild = append(wild, at((i%2*2-1)*10, 4*i))
	}
	got := impl.Clip(wild, box(0, 0, 20, 10000))
	if len(got) != impl.MaxRow/2 || !slices.Equal(got[0], path(0, 2, 10, 4, 0, 6)) || !slices.Equal(got[999], path(0, 7994, 10, 7996)) {
		t.Error(len(got))
	}
	if got, want := impl.Clip(wild, box(-5, 0, 5, 10000)), clipOf(wild, box(-5, 0, 5, 10000)); len(got) != impl.MaxRow-1 || !sameRows(got, want) {
		t.Error(len(got))
	}
}

func TestClipOfEveryStretchOfASmallGrid(t *testing.T) {
	before := straightMoves
	ps := []impl.Point{}
	for x := int64(-4); x <= 6; x++ {
		for y := int64(-4); y <= 5; y++ {
			ps = append(ps, at(x, y))
		}
	}
	for _, b := range []impl.Box{box(0, 0, 3, 2), box(-2, -3, -1, 3), box(1, 1, 1, 1), box(-1, 0, 4, 0)} {
		for _, p := range ps {
			for _, q := range ps {
				if got, want := impl.Clip([]impl.Point{p, q}, b), clipOf([]impl.Point{p, q}, b); !sameRows(got, want) {
					t.Fatal(p, q, b, "gives", got, "and not", want)
				}
			}
		}
	}
	// The words provide for an end that has no crossing to go to; there is none such.
	if straightMoves != before {
		t.Error(straightMoves-before, "ends were moved straight onto an edge")
	}
}

// wander is a row that stays where it is now and then, and often lies on the lines of a box.
func wander(r *rand.Rand, count int, most int64, b impl.Box) []impl.Point {
	row := someRow(r, count, most)
	for i := range row {
		if i > 0 && r.Intn(6) == 0 {
			row[i] = row[i-1]
		}
		if x := []int64{b.Low.X, b.High.X}[r.Intn(2)]; r.Intn(8) == 0 && -most <= x && x <= most {
			row[i].X = x
		}
		if y := []int64{b.Low.Y, b.High.Y}[r.Intn(2)]; r.Intn(8) == 0 && -most <= y && y <= most {
			row[i].Y = y
		}
	}
	return row
}

func TestClipAgainstTheWords(t *testing.T) {
	tell := numbers(65)
	before := straightMoves
	rows := map[int]int{}
	for i := range 20000 {
		size := []int64{4, 12, 100, 100000, impl.MaxCoord}[i%5]
		b := someBox(tell, size)
		row := wander(tell, tell.Intn(12), size, b)
		want := clipOf(row, b)
		checkClip(t, "by chance", row, b, want...)
		rows[min(len(want), 3)]++
		if t.Failed() {
			t.FailNow()
		}
	}
	if straightMoves != before || rows[0] < 2000 || rows[1] < 2000 || rows[2] < 1000 || rows[3] < 200 {
		t.Error("too few of a kind:", rows, straightMoves-before)
	}
}

func TestWhatWasClippedIsClippedAgain(t *testing.T) {
	tell := numbers(66)
	pieces := 0
	for i := range 20000 {
		size := []int64{4, 12, 100, 100000, impl.MaxCoord}[i%5]
		b := someBox(tell, size)
		for _, piece := range impl.Clip(wander(tell, tell.Intn(12), size, b), b) {
			pieces++
			if len(piece) < 2 || slices.ContainsFunc(piece, func(p impl.Point) bool { return !lies(p, b) }) {
				t.Fatal(piece, "is no piece in", b)
			}
			if again := impl.Clip(piece, b); !sameRows(again, [][]impl.Point{piece}) {
				t.Fatal(piece, b, "gives", again)
			}
		}
	}
	if pieces < 10000 {
		t.Error("too few pieces:", pieces)
	}
}

// exactPart tells where the closed part of a stretch in a box begins and ends, as fractions of the stretch; false when there is
// none. It narrows the fractions edge by edge, in no order that could show.
func exactPart(a spot, b spot, low spot, high spot) (*big.Rat, *big.Rat, bool) {
	from, to := big.NewRat(0, 1), big.NewRat(1, 1)
	for axis := range 2 {
		way := b[axis] - a[axis]
		if way == 0 {
			if a[axis] < low[axis] || a[axis] > high[axis] {
				return nil, nil, false
			}
			continue
		}
		enter, leave := big.NewRat(low[axis]-a[axis], way), big.NewRat(high[axis]-a[axis], way)
		if way < 0 {
			enter, leave = leave, enter
		}
		if enter.Cmp(from) > 0 {
			from = enter
		}
		if leave.Cmp(to) < 0 {
			to = leave
		}
	}
	return from, to, from.Cmp(to) <= 0
}

func placeAt(a spot, b spot, part *big.Rat) impl.Point {
	var s spot
	for axis := range 2 {
		n := new(big.Rat).Mul(part, new(big.Rat).SetInt64(b[axis]-a[axis]))
		s[axis] = rounded(n.Add(n, new(big.Rat).SetInt64(a[axis])))
	}
	return at(s[0], s[1])
}

// grazes tells of a stretch that goes over an upright edge less than one above the upper Y edge: rounding down brings that in.
func grazes(a spot, b spot, low spot, high spot) bool {
	for _, e := range []int64{low[0], high[0]} {
		if min(a[0], b[0]) < e && e < max(a[0], b[0]) {
			above := heightAt(a, b, 0, e)
			above.Sub(above, new(big.Rat).SetInt64(high[1]))
			if above.Sign() > 0 && above.Cmp(big.NewRat(1, 1)) < 0 {
				return true
			}
		}
	}
	return false
}

// Where nothing grazes the upper edge, what is told of a stretch is its exact part, both ends rounded down.
func TestClipIsTheExactPart(t *testing.T) {
	tell := numbers(67)
	parts, grazing := 0, 0
	for i := range 40000 {
		size := []int64{4, 12, 100, 100000, impl.MaxCoord}[i%5]
		frame := someBox(tell, size)
		p, q := somewhere(tell, size), somewhere(tell, size)
		a, b, low, high := spotOf(p), spotOf(q), spotOf(frame.Low), spotOf(frame.High)
		if grazes(a, b, low, high) {
			grazing++
			continue
		}
		var want [][]impl.Point
		if from, to, some := exactPart(a, b, low, high); some {
			ends := []impl.Point{placeAt(a, b, from), placeAt(a, b, to)}
			if ends[0] != ends[1] || p == q {
				want = append(want, ends)
				parts++
			}
		}
		if got := impl.Clip([]impl.Point{p, q}, frame); !sameRows(got, want) {
			t.Fatal(p, q, frame, "gives", got, "and not", want)
		}
	}
	if parts < 5000 || grazing > 10000 {
		t.Error("too few of a kind:", parts, grazing)
	}
}
