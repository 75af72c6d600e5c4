package tests

import (
	"math/rand"
	"slices"
	"testing"

	"loop.example/g00024/impl"
)

func cell(code uint64, level int64) impl.Cell { return impl.Cell{Code: code, Level: level} }

// someBox is one whose Low is at most its High, often thin.
func someBox(r *rand.Rand, most int64) impl.Box {
	a, b := somewhere(r, most), somewhere(r, most)
	switch r.Intn(6) {
	case 0:
		b.X = a.X
	case 1:
		b.Y = a.Y
	}
	return box(min(a.X, b.X), min(a.Y, b.Y), max(a.X, b.X), max(a.Y, b.Y))
}

func checkCover(t *testing.T, name string, b impl.Box, most int64, want ...impl.Cell) {
	t.Helper()
	if got := impl.Cover(b, most); !slices.Equal(got, want) {
		t.Error(name, b, most, "gives", got, "and not", want)
	}
}

func checkNumbers(t *testing.T, name string, got []int64, want ...int64) {
	t.Helper()
	if !slices.Equal(got, want) {
		t.Error(name, "gives", short(got), "and not", short(want))
	}
}

// corners has the four of a box and the middles of its edges.
func corners(b impl.Box) []impl.Point {
	x, y := (b.Low.X+b.High.X)/2, (b.Low.Y+b.High.Y)/2
	return path(b.Low.X, b.Low.Y, b.High.X, b.Low.Y, b.High.X, b.High.Y, b.Low.X, b.High.Y, x, b.Low.Y, x, b.High.Y, b.Low.X, y, b.High.X, y)
}
