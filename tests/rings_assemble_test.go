package tests

import (
	"fmt"
	"math"
	"slices"
	"testing"

	"loop.example/g00024/impl"
)

// Promise 4, of Assemble: areas are closed rings, each stretch once.

func TestOneWayIsARing(t *testing.T) {
	for _, row := range [][]impl.Point{path(0, 0, 10, 0, 10, 10, 0, 0), path(0, 0, 0, 10, 10, 10, 10, 0, 0, 0)} {
		for _, one := range [][]impl.Point{row, turned(row)} {
			checkRings(t, "outer", []stroke{{row: one}}, impl.Ring{Row: one})
			checkRings(t, "inner", []stroke{{row: one, inner: true}}, impl.Ring{Row: one, Inner: true})
		}
	}
}

// Each way may stand in any place, and go round or against it; the ring goes as the first of them.
func TestWaysArePutTogether(t *testing.T) {
	hexagon := path(0, 0, 10, -5, 20, 0, 20, 10, 10, 15, 0, 10, 0, 0)
	for _, places := range [][]int{{1}, {3}, {5}, {1, 2}, {2, 4}, {1, 5}, {3, 4}, {1, 2, 3, 4, 5}} {
		pieces := cut(hexagon, places...)
		for _, order := range orders(len(pieces)) {
			for mask := range 1 << len(pieces) {
				var strokes []stroke
				for _, i := range order {
					row := pieces[i]
					if mask>>i&1 == 1 {
						row = turned(row)
					}
					strokes = append(strokes, stroke{row: row})
				}
				whole := hexagon
				if mask>>order[0]&1 == 1 {
					whole = turned(hexagon)
				}
				want := begun(whole, slices.Index(whole, strokes[0].row[0]))
				checkRings(t, fmt.Sprint(places, order, mask), strokes, impl.Ring{Row: want})
			}
		}
	}
}

// Two nodes at one point are one end.
func TestEndsArePoints(t *testing.T) {
	m := impl.Map{
		Nodes: []impl.Node{node(1, 0, 0), node(2, 9, 0), node(3, 9, 0), node(4, 5, 5), node(5, 0, 0)},
		Ways:  []impl.Way{way(1, 1, 2), way(2, 5, 4, 3), way(3, 1, 2, 4, 5)},
		Areas: []impl.Area{area(1, outer(1), outer(2)), area(2, outer(3))},
	}
	checkAssembled(t, "two ways", m, 1, impl.Rings{Rings: []impl.Ring{ring(false, 0, 0, 9, 0, 5, 5, 0, 0)}})
	checkAssembled(t, "one way", m, 2, impl.Rings{Rings: []impl.Ring{ring(false, 0, 0, 9, 0, 5, 5, 0, 0)}})
}

// Two squares on one stretch in the middle: at both its ends two of the three lines could go on.
func TestTheFirstPartGoesOn(t *testing.T) {
	middle, left, right := outline(0, 0, 0, 10), outline(0, 10, -10, 10, -10, 0, 0, 0), outline(0, 0, 10, 0, 10, 10, 0, 10)
	leftRing, rightRing := ring(false, 0, 0, 0, 10, -10, 10, -10, 0, 0, 0), ring(false, 0, 0, 0, 10, 10, 10, 10, 0, 0, 0)
	round := hole(-20, -20, 20, -20, 0, -30, -20, -20)
	roundRing := ring(true, round.row[0].X, round.row[0].Y, 20, -20, 0, -30, -20, -20)
	// The third one is left, and does not close.
	checkRingFault(t, "left first", impl.RingsOpen, 2, middle, left, right)
	checkRingFault(t, "right first", impl.RingsOpen, 2, middle, right, left)
	checkRings(t, "left and its twin", []stroke{middle, left, right, middle}, leftRing, ring(false, 0, 0, 10, 0, 10, 10, 0, 10, 0, 0))
	checkRings(t, "right and its twin", []stroke{middle, right, left, middle}, rightRing, ring(false, 0, 10, -10, 10, -10, 0, 0, 0, 0, 10))
	checkRings(t, "another between", []stroke{middle, round, right, left, middle}, rightRing, roundRing, ring(false, 0, 10, -10, 10, -10, 0, 0, 0, 0, 10))
	// Whether it begins or ends there does not count, only which is first.
	turnedRight := stroke{row: turned(right.row)}
	checkRings(t, "turned", []stroke{middle, turnedRight, left, middle}, rightRing, ring(false, 0, 10, -10, 10, -10, 0, 0, 0, 0, 10))
	checkRings(t, "left of turned", []stroke{middle, left, turnedRight, middle}, leftRing, ring(false, 0, 10, 10, 10, 10, 0, 0, 0, 0, 10))
}

// A way that is closed where the ring stands goes on too, if it is the first.
func TestAClosedWayAtAnEnd(t *testing.T) {
	begin, loop, end := outline(0, 0, 10, 0), outline(10, 0, 20, -5, 20, 5, 10, 0), outline(10, 0, 5, 10, 0, 0)
	checkRingFault(t, "loop first", impl.RingsCross, 0, begin, loop, end)
	checkRings(t, "loop last", []stroke{begin, end, loop}, ring(false, 0, 0, 10, 0, 5, 10, 0, 0), ring(false, 10, 0, 20, -5, 20, 5, 10, 0))
	checkRings(t, "loop ahead", []stroke{loop, begin, end}, ring(false, 10, 0, 20, -5, 20, 5, 10, 0), ring(false, 0, 0, 10, 0, 5, 10, 0, 0))
	checkRingFault(t, "open behind the loop", impl.RingsOpen, 0, begin, loop)
	loop.inner = true
	checkRings(t, "loop of the other kind", []stroke{begin, loop, end}, ring(false, 0, 0, 10, 0, 5, 10, 0, 0), ring(true, 10, 0, 20, -5, 20, 5, 10, 0))
	// A ring that is closed asks for nothing more, whatever begins there.
	whole := outline(0, 0, 10, 0, 5, 10, 0, 0)
	checkRings(t, "two from one point", []stroke{whole, outline(0, 0, -10, 0, -5, 10, 0, 0)}, ring(false, 0, 0, 10, 0, 5, 10, 0, 0), ring(false, 0, 0, -10, 0, -5, 10, 0, 0))
	checkRingFault(t, "one more from there", impl.RingsOpen, 1, whole, outline(0, 0, -10, 0))
}

func TestInnerAndOuterDoNotMeet(t *testing.T) {
	begin, end := outline(0, 0, 10, 0), outline(10, 0, 5, 10, 0, 0)
	other := hole(10, 0, 5, -10, 0, 0)
	checkRingFault(t, "outer and inner", impl.RingsOpen, 0, begin, other)
	checkRingFault(t, "inner and outer", impl.RingsOpen, 0, other, begin)
	checkRings(t, "passed over", []stroke{begin, other, end, hole(0, 0, 10, 0)},
		ring(false, 0, 0, 10, 0, 5, 10, 0, 0), ring(true, 10, 0, 5, -10, 0, 0, 10, 0))
	checkRings(t, "inner ones", []stroke{hole(0, 0, 10, 0), begin, end, other},
		ring(true, 0, 0, 10, 0, 5, -10, 0, 0), ring(false, 0, 0, 10, 0, 5, 10, 0, 0))
	checkRingFault(t, "one left", impl.RingsOpen, 1, begin, other, end)
}

func TestOuterAndInnerRings(t *testing.T) {
	outerRow, innerRow := path(0, 0, 30, 0, 30, 30, 0, 30, 0, 0), path(10, 10, 10, 20, 20, 20, 10, 10)
	island := path(12, 16, 13, 17, 12, 17, 12, 16)
	checkRings(t, "whole ways", []stroke{{row: outerRow}, {innerRow, true}, {row: island}},
		impl.Ring{Row: outerRow}, impl.Ring{Row: innerRow, Inner: true}, impl.Ring{Row: island})
	checkRings(t, "inner one first", []stroke{{innerRow, true}, {row: outerRow}}, impl.Ring{Row: innerRow, Inner: true}, impl.Ring{Row: outerRow})
	o, i := cut(outerRow, 2), cut(innerRow, 1)
	checkRings(t, "in turns", []stroke{{row: o[0]}, {i[0], true}, {row: o[1]}, {i[1], true}}, impl.Ring{Row: outerRow}, impl.Ring{Row: innerRow, Inner: true})
	checkRings(t, "in turns, from the end", []stroke{{i[1], true}, {row: o[1]}, {i[0], true}, {row: o[0]}},
		impl.Ring{Row: begun(innerRow, 1), Inner: true}, impl.Ring{Row: begun(outerRow, 2)})
	// Rings that meet or hold each other are not this function's business.
	checkRings(t, "the same twice", []stroke{{row: outerRow}, {row: outerRow}}, impl.Ring{Row: outerRow}, impl.Ring{Row: outerRow})
}

func TestRingsThatDoNotClose(t *testing.T) {
	ringed := outline(0, 0, 10, 0, 10, 10, 0, 0)
	checkRingFault(t, "one stretch", impl.RingsOpen, 0, outline(0, 0, 10, 0))
	checkRingFault(t, "nearly", impl.RingsOpen, 0, outline(0, 0, 10, 0, 10, 10, 0, 1))
	checkRingFault(t, "two", impl.RingsOpen, 0, outline(0, 0, 10, 0), outline(10, 0, 10, 10))
	checkRingFault(t, "two apart", impl.RingsOpen, 0, outline(0, 0, 10, 0), outline(10, 1, 10, 10, 0, 0))
	// A ring goes on from its last point alone.
	checkRingFault(t, "behind its first", impl.RingsOpen, 0, outline(0, 0, 10, 0), outline(5, 5, 0, 0))
	checkRingFault(t, "in the middle of a way", impl.RingsOpen, 0, outline(0, 0, 10, 0), outline(20, 0, 10, 0, 0, 5, 0, 0))
	checkRingFault(t, "passes its beginning", impl.RingsOpen, 0, outline(0, 0, 10, 0, 5, 5, 0, 0, -5, 0))
	checkRingFault(t, "first", impl.RingsOpen, 0, outline(0, 0, 10, 0), ringed)
	checkRingFault(t, "behind one", impl.RingsOpen, 1, ringed, outline(50, 50, 60, 50))
	checkRingFault(t, "behind two of two", impl.RingsOpen, 3, outline(0, 0, 10, 0), ringed, outline(10, 0, 5, -5, 0, 0), hole(50, 50, 60, 50), hole(60, 50, 70, 70))
	checkRingFault(t, "a way there and back", impl.RingsOpen, 0, outline(0, 0, 10, 0, 0, 0, 10, 0))
	checkRingFault(t, "round nothing, then on", impl.RingsOpen, 0, outline(0, 0, 10, 0), outline(10, 0, 10, 5, 10, 0))
}

func TestRingsOfFewPoints(t *testing.T) {
	checkRingFault(t, "two", impl.RingsCross, 0, outline(0, 0, 0, 0))
	checkRingFault(t, "three", impl.RingsCross, 0, outline(0, 0, 10, 0, 0, 0))
	checkRingFault(t, "three of two ways", impl.RingsCross, 0, outline(0, 0, 10, 0), outline(10, 0, 0, 0))
	checkRingFault(t, "three of twins", impl.RingsCross, 0, outline(0, 0, 10, 0), outline(0, 0, 10, 0))
	checkRings(t, "four", []stroke{outline(0, 0, 1, 0, 0, 1, 0, 0)}, ring(false, 0, 0, 1, 0, 0, 1, 0, 0))
	checkRingFault(t, "four on a line", impl.RingsCross, 0, outline(0, 0, 1, 0, 2, 0, 0, 0))
	checkRingFault(t, "four on a line, the first between", impl.RingsCross, 0, outline(0, 0, 1, 1, -1, -1, 0, 0))
	checkRingFault(t, "four on a line, the third between", impl.RingsCross, 0, outline(0, 0, 0, 8, 0, 4, 0, 0))
}

// As one way, as two, and as many: MaxRow points are a ring, one more is none.
func TestRingsOfManyPoints(t *testing.T) {
	const most = impl.MaxRow
	checkRings(t, "one way", []stroke{{row: fan(most)}}, impl.Ring{Row: fan(most)})
	for _, places := range [][]int{{1}, {most / 2}, {most - 2}, {100, 101, 1000, 1900}} {
		for count, want := range map[int]bool{most - 1: true, most: true, most + 1: false, most + 50: false} {
			var strokes []stroke
			for _, row := range cut(fan(count), places...) {
				strokes = append(strokes, stroke{row: row})
			}
			if slices.ContainsFunc(strokes, func(s stroke) bool { return len(s.row) < 2 || len(s.row) > most }) {
				continue
			}
			name := fmt.Sprint(count, places)
			if want {
				checkRings(t, name, strokes, impl.Ring{Row: fan(count)})
			} else {
				checkRingFault(t, name, impl.RingsCross, 0, strokes...)
			}
		}
	}
	// At MaxRow points a ring still goes on, with one more it does not, though it could be closed.
	back := func(row []impl.Point) stroke { return stroke{row: []impl.Point{row[len(row)-1], at(-5, 50), row[0]}} }
	long := fan(most + 1)[:most]
	checkRingFault(t, "goes on", impl.RingsCross, 0, stroke{row: long}, back(long))
	longer := fan(most + 2)[:most+1]
	pieces := cut(longer, 1000)
	checkRingFault(t, "goes on no more", impl.RingsOpen, 0, stroke{row: pieces[0]}, stroke{row: pieces[1]}, back(longer))
	checkRingFault(t, "goes on no more, and crosses", impl.RingsOpen, 0, stroke{row: pieces[0]}, stroke{row: pieces[1]}, outline(0, 0, 0, 0))
	// The same ring cut elsewhere is too long in the end.
	checkRingFault(t, "begins with the last", impl.RingsCross, 0, back(longer), stroke{row: pieces[0]}, stroke{row: pieces[1]})
}

// crossedRings have each one fault of which the document tells.
func crossedRings() map[string][]impl.Point {
	return map[string][]impl.Point{
		"a stretch without length":        path(0, 0, 10, 0, 10, 0, 10, 10, 0, 0),
		"three without length":            path(0, 0, 10, 0, 10, 0, 10, 0, 10, 0, 10, 10, 0, 0),
		"crossed":                         path(0, 0, 10, 10, 10, 0, 0, 10, 0, 0),
		"crossed between numbers":         path(0, 0, 9, 10, 10, 1, 0, 3, 0, 0),
		"a corner on a stretch":           path(0, 0, 10, 0, 10, 10, 5, 0, 0, 10, 0, 0),
		"two corners at one point":        path(0, 0, 4, 0, 2, 2, 4, 4, 0, 4, 2, 2, 0, 0),
		"two stretches on each other":     path(0, 0, 10, 0, 10, 10, 8, 0, 4, 0, 0, 10, 0, 0),
		"two stretches the same":          path(0, 0, 5, 5, 10, 5, 15, 0, 15, 9, 10, 5, 5, 5, 0, 9, 0, 0),
		"back on itself":                  path(0, 0, 10, 0, 5, 0, 5, 5, 0, 0),
		"just back":                       path(0, 0, 10, 0, 10, 10, 10, 0, 5, -5, 0, 0),
		"farther back":                    path(0, 0, 10, 0, -5, 0, 5, -5, 0, 0),
		"a spike":                         path(0, 0, 10, 0, 10, 5, 15, 5, 10, 5, 10, 10, 0, 0),
		"round and round":                 path(0, 0, 10, 0, 10, 10, 0, 0, 10, 0, 10, 10, 0, 0),
		"two rings at one corner":         path(0, 0, 10, 0, 10, 10, 0, 0, -10, 0, -10, -10, 0, 0),
		"at the greatest numbers":         path(-impl.MaxCoord, -impl.MaxCoord, impl.MaxCoord, impl.MaxCoord, impl.MaxCoord, -impl.MaxCoord, -impl.MaxCoord, impl.MaxCoord, -impl.MaxCoord, -impl.MaxCoord),
		"back at the greatest numbers":    path(-impl.MaxCoord, 0, impl.MaxCoord, 0, impl.MaxCoord-1, 0, 0, impl.MaxCoord, -impl.MaxCoord, 0),
		"on a stretch, far away":          path(-impl.MaxCoord, -impl.MaxCoord, impl.MaxCoord, impl.MaxCoord-1, impl.MaxCoord, impl.MaxCoord, -impl.MaxCoord, -impl.MaxCoord+1, -impl.MaxCoord, -impl.MaxCoord+1, -impl.MaxCoord, -impl.MaxCoord),
		"a stretch without length at end": path(0, 0, 10, 0, 10, 10, 0, 0, 0, 0),
	}
}

// fairRings are near to crossed ones, and have no fault.
func fairRings() map[string][]impl.Point {
	return map[string][]impl.Point{
		"straight on":                    path(0, 0, 5, 0, 10, 0, 10, 10, 0, 0),
		"straight on at every side":      path(0, 0, 5, 0, 10, 0, 10, 5, 10, 10, 5, 10, 0, 10, 0, 5, 0, 0),
		"a corner near a stretch":        path(0, 0, 10, 0, 10, 10, 5, 1, 0, 10, 0, 0),
		"two corners near each other":    path(0, 0, 4, 0, 2, 2, 4, 4, 0, 4, 1, 2, 0, 0),
		"level beside each other":        path(0, 0, 10, 0, 10, 10, 8, 1, 4, 1, 0, 10, 0, 0),
		"a narrow spike":                 path(0, 0, 10, 0, 10, 5, 15, 5, 10, 6, 10, 10, 0, 0),
		"on one line, but apart":         path(0, 0, 3, 0, 3, 3, 6, 3, 6, 0, 9, 0, 9, 9, 0, 9, 0, 0),
		"as narrow as can be":            path(-impl.MaxCoord, -impl.MaxCoord, impl.MaxCoord, impl.MaxCoord-1, impl.MaxCoord, impl.MaxCoord, -impl.MaxCoord, -impl.MaxCoord),
		"the whole plane":                path(-impl.MaxCoord, -impl.MaxCoord, impl.MaxCoord, -impl.MaxCoord, impl.MaxCoord, impl.MaxCoord, -impl.MaxCoord, impl.MaxCoord, -impl.MaxCoord, -impl.MaxCoord),
		"a hair beside the first corner": path(0, 0, 1000001, 1000000, 1000000, 1000000, 999999, 1000000, 0, 0),
	}
}

// Wherever the ring begins and whichever way it goes, as one way or as two, as an outer one or an inner one.
func eachForm(row []impl.Point, ask func(form string, strokes ...stroke)) {
	for from := range len(row) - 1 {
		for _, one := range [][]impl.Point{begun(row, from), turned(begun(row, from))} {
			form := fmt.Sprint(" from ", from, one[:2])
			ask(form, stroke{row: one})
			ask(form+" inner", stroke{one, true})
			for at := 1; at < len(one)-1; at++ {
				pieces := cut(one, at)
				// Where an end is met before, the ring is closed there.
				if pieces[0][at] != one[0] {
					ask(form+fmt.Sprint(" cut at ", at), stroke{row: pieces[0]}, stroke{row: turned(pieces[1])})
				}
			}
		}
	}
}

func TestRingsThatCross(t *testing.T) {
	for name, row := range crossedRings() {
		eachForm(row, func(form string, strokes ...stroke) {
			checkRingFault(t, name+form, impl.RingsCross, 0, strokes...)
			checkRingFault(t, name+form+" behind", impl.RingsCross, 1, append([]stroke{outline(50, 50, 60, 50, 50, 60, 50, 50)}, strokes...)...)
		})
	}
}

func TestRingsThatDoNotCross(t *testing.T) {
	for name, row := range fairRings() {
		eachForm(row, func(form string, strokes ...stroke) {
			whole := strokes[0].row
			if len(strokes) > 1 {
				whole = append(slices.Clone(whole), turned(strokes[1].row)[1:]...)
			}
			checkRings(t, name+form, strokes, impl.Ring{Row: whole, Inner: strokes[0].inner})
		})
	}
}

func TestTheFirstFaultOfTwo(t *testing.T) {
	open, crossed, ringed := outline(50, 0, 60, 0), outline(0, 0, 10, 10, 10, 0, 0, 10, 0, 0), outline(0, 0, 10, 0, 10, 10, 0, 0)
	other, short := outline(80, 80, 90, 90), hole(70, 70, 71, 71, 70, 70)
	checkRingFault(t, "open, crossed", impl.RingsOpen, 0, open, crossed)
	checkRingFault(t, "crossed, open", impl.RingsCross, 0, crossed, open)
	checkRingFault(t, "two open", impl.RingsOpen, 0, open, other)
	checkRingFault(t, "two open, the other first", impl.RingsOpen, 0, other, open)
	checkRingFault(t, "two crossed", impl.RingsCross, 1, ringed, short, crossed)
	checkRingFault(t, "behind fair ones", impl.RingsCross, 2, ringed, ringed, crossed, open, short)
	checkRingFault(t, "open behind fair ones", impl.RingsOpen, 2, ringed, ringed, open, short, crossed)
	// A ring that neither closes nor keeps clear of itself is open.
	checkRingFault(t, "both", impl.RingsOpen, 0, outline(0, 0, 10, 10, 10, 0, 0, 10))
	checkRingFault(t, "both, without length", impl.RingsOpen, 0, outline(0, 0, 10, 10, 10, 10))
	// The ring that begins first, not the one that ends first.
	checkRingFault(t, "begun first", impl.RingsCross, 0, outline(0, 0, 10, 10), short, outline(10, 10, 10, 0, 0, 10, 0, 0))
}

func TestNoRingsOfNoArea(t *testing.T) {
	none := impl.Rings{Fault: impl.RingsNone}
	m := drawn(outline(0, 0, 10, 0, 10, 10, 0, 0))
	for _, id := range []int64{0, -1, 1, drawnArea - 2, drawnArea + 1, drawnWay(0), impl.MaxId, impl.MaxId + 1, math.MaxInt64, math.MinInt64} {
		checkAssembled(t, "no such area", m, id, none)
		checkAssembled(t, "no area at all", impl.Map{Nodes: m.Nodes, Ways: m.Ways}, id, none)
		checkAssembled(t, "nothing at all", impl.Map{}, id, none)
	}
	checkAssembled(t, "the area ahead", m, drawnArea-1, impl.Rings{Rings: []impl.Ring{ring(false, 0, 0, 10, 0, 10, 10, 0, 0)}})
	eachFault(func(name string, m impl.Map) {
		for id := range int64(10) {
			checkAssembled(t, name, m, id, none)
		}
	})
}

// stretchesOf counts each stretch of some rows, whichever way it goes.
func stretchesOf(rows ...[]impl.Point) map[[2]impl.Point]int {
	counts := map[[2]impl.Point]int{}
	for _, row := range rows {
		for i := 1; i < len(row); i++ {
			a, b := row[i-1], row[i]
			if a.X > b.X || a.X == b.X && a.Y > b.Y {
				a, b = b, a
			}
			counts[[2]impl.Point{a, b}]++
		}
	}
	return counts
}

// checkPromised asks what is promised of every answer: closed rings, and each stretch of the Parts once.
func checkPromised(t *testing.T, strokes []stroke, answer impl.Rings) {
	t.Helper()
	for _, inner := range []bool{false, true} {
		var parts, rows [][]impl.Point
		for _, s := range strokes {
			if s.inner == inner {
				parts = append(parts, s.row)
			}
		}
		for _, r := range answer.Rings {
			if r.Row[0] != r.Row[len(r.Row)-1] {
				t.Fatal("not closed:", r)
			}
			if r.Inner == inner {
				rows = append(rows, r.Row)
			}
		}
		want, got := stretchesOf(parts...), stretchesOf(rows...)
		if len(want) != len(got) {
			t.Fatal("stretches", len(want), len(got))
		}
		for s, count := range want {
			if got[s] != count {
				t.Fatal("a stretch", s, "is there", got[s], "times, not", count)
			}
		}
	}
}

// Rings by chance, cut into pieces by chance, in any order and either way round.
func TestPiecesByChance(t *testing.T) {
	tell := numbers(41)
	for range 1500 {
		var strokes []stroke
		for k := range 1 + tell.Intn(4) {
			row := someRing(tell, at(int64(k)*40, within(tell, 20)), 4+tell.Int63n(30))
			inner := tell.Intn(3) == 0
			var places []int
			for i := 1; i < len(row)-1; i++ {
				if tell.Intn(9) == 0 && len(places) < 6 {
					places = append(places, i)
				}
			}
			for _, piece := range cut(row, places...) {
				if tell.Intn(2) == 0 {
					piece = turned(piece)
				}
				strokes = append(strokes, stroke{piece, inner})
			}
		}
		tell.Shuffle(len(strokes), func(i int, k int) { strokes[i], strokes[k] = strokes[k], strokes[i] })
		m := drawn(strokes...)
		got := impl.Assemble(m, drawnArea)
		if got.Fault != impl.RingsOk || !sameRings(got, ringsOf(m, drawnArea)) {
			t.Fatal(strokes, got)
		}
		checkPromised(t, strokes, got)
	}
}

// Lines by chance on a plane so small that their ends meet often.
func TestAssembledAgainstTheWords(t *testing.T) {
	tell := numbers(42)
	seen := map[int64]int{}
	for range 60000 {
		var strokes []stroke
		for range 1 + tell.Intn(5) {
			row := someRow(tell, 2+tell.Intn(3), 1)
			if tell.Intn(4) == 0 {
				row = append(row, row[0])
			}
			strokes = append(strokes, stroke{row, tell.Intn(4) == 0})
		}
		m := drawn(strokes...)
		if !mapCanBe(m) {
			continue
		}
		got := impl.Assemble(m, drawnArea)
		if !sameRings(got, ringsOf(m, drawnArea)) {
			t.Fatal(strokes, got, ringsOf(m, drawnArea))
		}
		if got.Fault == impl.RingsOk {
			checkPromised(t, strokes, got)
		}
		seen[got.Fault]++
	}
	if seen[impl.RingsOk] < 500 || seen[impl.RingsOpen] < 500 || seen[impl.RingsCross] < 500 {
		t.Error("too few of a kind:", seen)
	}
}

// Areas of the maps of chapter 2, made and shaken by chance.
func TestAreasOfMapsByChance(t *testing.T) {
	tell := numbers(43)
	for range 2000 {
		m := someMap(tell)
		for id := range int64(12) {
			checkAssembled(t, "by chance", m, id, ringsOf(m, id))
		}
	}
}
