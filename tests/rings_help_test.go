package tests

import (
	"fmt"
	"math/rand"
	"slices"
	"testing"

	"loop.example/g00024/impl"
)

// stroke is one piece of an area as it is drawn: the row of its way.
type stroke struct {
	row   []impl.Point
	inner bool
}

// path is a row of points, told by their coordinates.
func path(coords ...int64) []impl.Point {
	var row []impl.Point
	for i := 0; i+1 < len(coords); i += 2 {
		row = append(row, at(coords[i], coords[i+1]))
	}
	return row
}

func outline(coords ...int64) stroke { return stroke{row: path(coords...)} }

func hole(coords ...int64) stroke { return stroke{row: path(coords...), inner: true} }

func ring(inner bool, coords ...int64) impl.Ring {
	return impl.Ring{Row: path(coords...), Inner: inner}
}

// square is a ring to the left, its first point at the lower left.
func square(x int64, y int64, size int64) impl.Ring {
	return ring(false, x, y, x+size, y, x+size, y+size, x, y+size, x, y)
}

func insideOut(r impl.Ring) impl.Ring { return impl.Ring{Row: r.Row, Inner: !r.Inner} }

func turned(row []impl.Point) []impl.Point {
	other := slices.Clone(row)
	slices.Reverse(other)
	return other
}

// begun is the same closed row from another of its points on.
func begun(row []impl.Point, from int) []impl.Point {
	return append(slices.Clone(row[from:]), row[1:from+1]...)
}

const drawnArea = 7

// drawnWay is the Id of the way of that Part: the later, the smaller, so that the order of the ways is not that of the Parts.
func drawnWay(part int) int64 { return int64(100 - part) }

// drawn is a map with the area drawnArea that has these strokes as its Parts, in order, and another one ahead of it.
func drawn(strokes ...stroke) impl.Map {
	type place struct {
		point impl.Point
		twin  int
	}
	var m impl.Map
	ids := map[place]int64{}
	idOf := func(p place) int64 {
		if ids[p] == 0 {
			m.Nodes = append(m.Nodes, impl.Node{Id: int64(len(m.Nodes)) + 1, Point: p.point})
			ids[p] = int64(len(m.Nodes))
		}
		return ids[p]
	}
	a := impl.Area{Id: drawnArea}
	for i, s := range strokes {
		w := impl.Way{Id: drawnWay(i)}
		for k, p := range s.row {
			id := idOf(place{p, 0})
			// A way can stay where it is only by way of another node at that place.
			if k > 0 && id == w.Nodes[k-1] {
				id = idOf(place{p, 1})
			}
			w.Nodes = append(w.Nodes, id)
		}
		m.Ways = append([]impl.Way{w}, m.Ways...)
		a.Parts = append(a.Parts, impl.Part{Way: w.Id, Inner: s.inner})
	}
	m.Areas = []impl.Area{{Id: drawnArea - 1, Parts: a.Parts[len(a.Parts)-1:]}, a}
	return m
}

func sameRing(a impl.Ring, b impl.Ring) bool {
	return a.Inner == b.Inner && slices.Equal(a.Row, b.Row)
}

func sameRings(a impl.Rings, b impl.Rings) bool {
	return a.Fault == b.Fault && a.Way == b.Way && slices.EqualFunc(a.Rings, b.Rings, sameRing)
}

// short tells so much of an answer as can be read.
func short(v any) string {
	text := fmt.Sprint(v)
	return text[:min(len(text), 300)]
}

func checkAssembled(t *testing.T, name string, m impl.Map, area int64, want impl.Rings) {
	t.Helper()
	if got := impl.Assemble(m, area); !sameRings(got, want) {
		t.Errorf("%s: %s, not %s", name, short(got), short(want))
	}
}

func checkRings(t *testing.T, name string, strokes []stroke, want ...impl.Ring) {
	t.Helper()
	checkAssembled(t, name, drawn(strokes...), drawnArea, impl.Rings{Rings: want})
}

// checkRingFault asks for the fault of the ring that began with that stroke.
func checkRingFault(t *testing.T, name string, fault int64, began int, strokes ...stroke) {
	t.Helper()
	checkAssembled(t, name, drawn(strokes...), drawnArea, impl.Rings{Fault: fault, Way: drawnWay(began)})
}

// orders tells each order of so many.
func orders(count int) [][]int {
	if count == 0 {
		return [][]int{nil}
	}
	var all [][]int
	for _, order := range orders(count - 1) {
		for i := range count {
			all = append(all, slices.Insert(slices.Clone(order), i, count-1))
		}
	}
	return all
}

// cut takes a row apart at those of its points, ascending.
func cut(row []impl.Point, places ...int) [][]impl.Point {
	var pieces [][]impl.Point
	from := 0
	for _, to := range append(slices.Clone(places), len(row)-1) {
		pieces = append(pieces, slices.Clone(row[from:to+1]))
		from = to
	}
	return pieces
}

// fan is a ring of that many points, all of which but the first lie on one upright line.
func fan(count int) []impl.Point {
	row := []impl.Point{at(0, 0)}
	for i := range count - 2 {
		row = append(row, at(10, int64(i)))
	}
	return append(row, at(0, 0))
}

// someRing is a row round a box by chance, every corner where it will, so that it neither meets itself nor leaves the box.
func someRing(r *rand.Rand, low impl.Point, size int64) []impl.Point {
	row := []impl.Point{low}
	for x := low.X + 1; x < low.X+size; x++ {
		if r.Intn(2) == 0 {
			row = append(row, at(x, low.Y+r.Int63n(size/2)))
		}
	}
	row = append(row, at(low.X+size, low.Y), at(low.X+size, low.Y+size))
	for x := low.X + size - 1; x > low.X; x-- {
		if r.Intn(2) == 0 {
			row = append(row, at(x, low.Y+size-r.Int63n(size/2)))
		}
	}
	return append(row, at(low.X, low.Y+size), low)
}

// someRings are rows of every kind on a small plane: closed and open ones, such as meet themselves, and empty ones.
func someRings(r *rand.Rand, most int, size int64) []impl.Ring {
	rs := make([]impl.Ring, r.Intn(most+1))
	for i := range rs {
		row := someRow(r, r.Intn(7), size)
		if len(row) > 0 && r.Intn(4) > 0 {
			row = append(row, row[0])
		}
		rs[i] = impl.Ring{Row: row, Inner: r.Intn(2) == 0}
	}
	return rs
}
