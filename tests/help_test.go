package tests

import (
	"math"
	"math/big"
	"math/rand"
	"slices"
	"testing"

	"loop.example/g00024/impl"
)

func at(x int64, y int64) impl.Point { return impl.Point{X: x, Y: y} }

func number(n int64) *big.Int { return big.NewInt(n) }

// numbers gives the same row of numbers on every run.
func numbers(seed int64) *rand.Rand { return rand.New(rand.NewSource(seed)) }

// within picks a number from -most to most.
func within(r *rand.Rand, most int64) int64 { return r.Int63n(2*most+1) - most }

func somewhere(r *rand.Rand, most int64) impl.Point { return at(within(r, most), within(r, most)) }

func someRow(r *rand.Rand, count int, most int64) []impl.Point {
	row := make([]impl.Point, count)
	for i := range row {
		row[i] = somewhere(r, most)
	}
	return row
}

// stairs is a row of that many points, each one to the east of the one ahead.
func stairs(count int) []impl.Point {
	row := make([]impl.Point, count)
	for i := range row {
		row[i] = at(int64(i), 0)
	}
	return row
}

// outside are points that can't be, each by a little or by as much as there is.
func outside() []impl.Point {
	var ps []impl.Point
	for _, n := range []int64{impl.MaxCoord + 1, -impl.MaxCoord - 1, math.MaxInt64, math.MinInt64} {
		ps = append(ps, at(n, 0), at(0, n), at(n, n))
	}
	return ps
}

// noRows are lists that are no rows: one point too many, or one that can't be, wherever it stands.
func noRows() [][]impl.Point {
	rows := [][]impl.Point{stairs(impl.MaxRow + 1)}
	for _, bad := range outside() {
		rows = append(rows, []impl.Point{bad})
		for i := range 3 {
			row := stairs(3)
			row[i] = bad
			rows = append(rows, row)
		}
		full := stairs(impl.MaxRow)
		full[impl.MaxRow-1] = bad
		rows = append(rows, full)
	}
	return rows
}

// spoiled tells every way to put a point that can't be into the place of one or more of those that can.
func spoiled(good []impl.Point, ask func(ps []impl.Point)) {
	for _, bad := range outside() {
		for mask := 1; mask < 1<<len(good); mask++ {
			ps := slices.Clone(good)
			for i := range ps {
				if mask>>i&1 == 1 {
					ps[i] = bad
				}
			}
			ask(ps)
		}
	}
}

// guarded is a row with spare room behind it, and a question whether both are as they were.
func guarded(row []impl.Point) ([]impl.Point, func(t *testing.T)) {
	all := make([]impl.Point, len(row)+8)
	copy(all, row)
	for i := len(row); i < len(all); i++ {
		all[i] = at(77, int64(-i))
	}
	before := slices.Clone(all)
	return all[:len(row)], func(t *testing.T) {
		t.Helper()
		if !slices.Equal(all, before) {
			t.Errorf("a row of %d points was written into", len(row))
		}
	}
}
