package tests

import (
	"math"
	"slices"
	"testing"

	"loop.example/g00024/impl"
)

// Promise 19, of chapter 1: every function answers at every argument and none panics; answers are new memory; arguments stay.

// strange are numbers at and beyond every border, small and great.
func strange() []int64 {
	return []int64{
		math.MinInt64, math.MinInt64 + 1, math.MinInt32, -impl.MaxCoord - 1, -impl.MaxCoord, -1,
		0, 1, impl.MaxCoord, impl.MaxCoord + 1, math.MaxInt32, math.MaxInt64 - 1, math.MaxInt64,
	}
}

func strangePoints() []impl.Point {
	var ps []impl.Point
	for _, x := range strange() {
		for _, y := range strange() {
			ps = append(ps, at(x, y))
		}
	}
	return ps
}

func TestPointsOfEveryKindAreAnswered(t *testing.T) {
	ps := strangePoints()
	tell := numbers(11)
	pick := func() impl.Point { return ps[tell.Intn(len(ps))] }
	for _, a := range ps {
		for _, b := range ps {
			ok := impl.PointOk(a) && impl.PointOk(b)
			if d := impl.Distance(a, b); (d >= 0) != ok || d < -1 {
				t.Error("Distance", a, b, d)
			}
			if h := impl.Heading(a, b); (h >= 0) != (ok && a != b) || h < -1 || h > 7 {
				t.Error("Heading", a, b, h)
			}
			c, d := pick(), pick()
			if n := impl.Turn(a, b, c); (n != 2) != (ok && impl.PointOk(c)) || n < -1 || n > 2 {
				t.Error("Turn", a, b, c, n)
			}
			if impl.Cross(a, b, c, d) && !(ok && impl.PointOk(c) && impl.PointOk(d)) {
				t.Error("Cross", a, b, c, d)
			}
		}
	}
	for _, n := range strange() {
		if r := impl.Root(n); (r >= 0) != (n >= 0) || r < -1 {
			t.Error("Root", n, r)
		}
	}
}

func TestRowsOfEveryKindAreAnswered(t *testing.T) {
	ps := strangePoints()
	tell := numbers(12)
	for range 20000 {
		row := make([]impl.Point, tell.Intn(5))
		ok := true
		for i := range row {
			row[i] = ps[tell.Intn(len(ps))]
			if tell.Intn(3) > 0 {
				row[i] = somewhere(tell, impl.MaxCoord)
			}
			ok = ok && impl.PointOk(row[i])
		}
		p, most := ps[tell.Intn(len(ps))], strange()[tell.Intn(len(strange()))]
		if n := impl.Length(row); (n >= 0) != ok || n < -1 {
			t.Error("Length", row, n)
		}
		if f := impl.Near(row, p); (f.Leg >= 0) != (ok && len(row) > 0 && impl.PointOk(p)) || f.Leg < 0 && f != (impl.Foot{Leg: -1}) {
			t.Error("Near", row, p, f)
		}
		if s := impl.Simplify(row, most); (len(s) > 0) != (ok && len(row) > 0 && most >= 0) {
			t.Error("Simplify", row, most, s)
		}
		if b := impl.Bounds(row); !ok && b != (impl.Box{}) {
			t.Error("Bounds", row, b)
		}
	}
}

// rowsToGuard are rows of each kind: none, short ones, a full one, ones of which all or nearly all points go, and no rows.
func rowsToGuard() [][]impl.Point {
	tell := numbers(13)
	rows := [][]impl.Point{{}, stairs(1), stairs(2), stairs(3), stairs(40), stairs(impl.MaxRow), zigzag(60)}
	for count := range 20 {
		rows = append(rows, someRow(tell, count, 1000))
	}
	return append(rows, noRows()...)
}

func TestArgumentsStay(t *testing.T) {
	for _, plain := range rowsToGuard() {
		row, check := guarded(plain)
		impl.Length(row)
		check(t)
		impl.Near(row, at(5, 5))
		check(t)
		for _, most := range []int64{-1, 0, 3, 100, math.MaxInt64} {
			impl.Simplify(row, most)
			check(t)
		}
		impl.Bounds(row)
		check(t)
	}
}

// An answer may be written into, and grown, without a trace in the argument or in the next answer.
func TestSimplifiedIsNewMemory(t *testing.T) {
	for _, plain := range rowsToGuard() {
		for _, most := range []int64{0, 3, 100, math.MaxInt64} {
			row, check := guarded(plain)
			first := impl.Simplify(row, most)
			want := slices.Clone(first)
			second := impl.Simplify(row, most)
			spoil(first)
			check(t)
			if !slices.Equal(second, want) || !slices.Equal(impl.Simplify(row, most), want) {
				t.Errorf("two answers of %d points share memory", len(row))
			}
		}
	}
}

// spoil writes over all that a list has, its spare room too.
func spoil(ps []impl.Point) {
	ps = ps[:cap(ps)]
	for i := range ps {
		ps[i] = at(-99, 99)
	}
}

// The answer of before a change of the argument stays as it is.
func TestSimplifiedDoesNotFollowTheRow(t *testing.T) {
	for _, row := range [][]impl.Point{stairs(1), stairs(2), zigzag(60)} {
		got := impl.Simplify(row, 0)
		want := slices.Clone(got)
		spoil(row)
		if !slices.Equal(got, want) {
			t.Errorf("an answer of %d points changed with the argument", len(got))
		}
	}
}

func TestTheSameIsAnsweredAgain(t *testing.T) {
	tell := numbers(14)
	for range 200 {
		row, p := someRow(tell, 12, 5000), somewhere(tell, 5000)
		near, length, box, kept := impl.Near(row, p), impl.Length(row), impl.Bounds(row), impl.Simplify(row, 900)
		impl.Near(someRow(tell, 9, 77), at(1, 1))
		impl.Simplify(someRow(tell, 30, 77), 2)
		if impl.Near(row, p) != near || impl.Length(row) != length || impl.Bounds(row) != box || !slices.Equal(impl.Simplify(row, 900), kept) {
			t.Fatal("a call hangs on the one ahead of it:", row)
		}
	}
}
