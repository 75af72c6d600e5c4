package tests

import (
	"slices"
	"testing"

	"loop.example/g00024/impl"
)

// Promise 19, of chapter 4: every function answers at every argument and none panics; answers are new memory; arguments stay.

type ringsAndPoint struct {
	Rings []impl.Ring
	Point impl.Point
}

func askAssemble(a mapAndId) impl.Rings { return impl.Assemble(a.Map, a.Id) }

func askInside(a ringsAndPoint) int64 { return impl.Inside(a.Rings, a.Point) }

// areasToGuard are maps with areas of one and of many pieces, of several rings, and with faults.
func areasToGuard() []impl.Map {
	square := path(0, 0, 10, 0, 10, 10, 0, 10, 0, 0)
	p := cut(square, 1, 2, 3)
	maps := []impl.Map{
		drawn(stroke{row: square}), drawn(stroke{row: square}, stroke{square, true}, stroke{row: square}),
		drawn(stroke{row: p[0]}, stroke{row: turned(p[2])}, stroke{row: p[3]}, stroke{row: turned(p[1])}),
		drawn(stroke{row: p[2]}, stroke{p[0], true}, stroke{row: p[3]}, stroke{row: p[0]}, stroke{slices.Concat(p[1], p[2][1:], p[3][1:]), true}, stroke{row: p[1]}),
		drawn(stroke{row: p[0]}), drawn(stroke{row: square}, stroke{row: p[0]}, stroke{row: p[1]}),
	}
	for _, row := range crossedRings() {
		maps = append(maps, drawn(stroke{row: square}, stroke{row: row}))
	}
	return maps
}

// ringsToGuard are lists of each kind: none, oriented and not, by chance, and such as can't be.
func ringsToGuard() [][]impl.Ring {
	lists := [][]impl.Ring{nil, {}, {{}}, {square(0, 0, 10), insideOut(square(2, 2, 4)), square(3, 3, 1), insideOut(square(20, 0, 5))},
		{{Row: turned(square(0, 0, 10).Row)}, {Row: turned(square(2, 2, 4).Row), Inner: true}}, manyRings(impl.MaxRings), manyRings(impl.MaxRings + 1)}
	tell := numbers(49)
	for range 100 {
		lists = append(lists, someRings(tell, 5, 6))
	}
	for i, row := range noRows() {
		if i > 0 && i < 20 {
			lists = append(lists, []impl.Ring{square(0, 0, 5), {Row: row}})
		}
	}
	return lists
}

func TestAreasStayAndRingsAreNew(t *testing.T) {
	for _, m := range append(areasToGuard(), mapsToGuard()...) {
		for id := range int64(10) {
			checkMemory(t, "Assemble", mapAndId{m, id}, askAssemble)
		}
	}
}

func TestRingsStayAndAnswersAreNew(t *testing.T) {
	for _, rs := range ringsToGuard() {
		checkMemory(t, "Orient", rs, impl.Orient)
		checkMemory(t, "Nesting", rs, impl.Nesting)
		for _, p := range append(path(0, 0, 3, 3, 5, 1, -1, -1), outside()[0]) {
			checkMemory(t, "Inside", ringsAndPoint{rs, p}, askInside)
		}
		for _, r := range rs {
			checkMemory(t, "AreaTwice", r.Row, impl.AreaTwice)
		}
	}
}

// The same row in several rings gives rows that lie apart.
func TestRowsOfSharedRingsAreApart(t *testing.T) {
	row := square(0, 0, 10).Row
	rs := []impl.Ring{{Row: row}, {Row: row, Inner: true}, {Row: row}, {Row: row[:3]}, {Row: row[2:], Inner: true}}
	kept, want := same(rs), orientOf(same(rs))
	got := impl.Orient(rs)
	for i := range got {
		others := slices.Clone(got)
		clear(got[i].Row)
		_ = append(got[i].Row, at(77, 77))
		for k := range others {
			if k > i && !sameRing(others[k], want[k]) {
				t.Error("a change of ring", i, "shows in ring", k)
			}
		}
	}
	if !slices.EqualFunc(rs, kept, sameRing) {
		t.Error("a change of the answer shows in the argument")
	}
}

// The same way in two areas, and ways of the same nodes, give rows of their own at every call.
func TestAnswersDoNotFollowTheArea(t *testing.T) {
	m := areasToGuard()[1]
	first, second := impl.Assemble(m, drawnArea), impl.Assemble(m, drawnArea)
	kept := same(first)
	for i := range second.Rings {
		clear(second.Rings[i].Row)
	}
	for i := range m.Nodes {
		m.Nodes[i].Point = at(-7, -7)
	}
	for i := range m.Ways {
		clear(m.Ways[i].Nodes)
	}
	clear(m.Areas[1].Parts)
	if first.Fault != impl.RingsOk || len(first.Rings) != 3 || !sameRings(first, kept) {
		t.Error("an answer changed with the argument, or with another answer", first)
	}
}

func TestAreasOfEveryKindAreAnswered(t *testing.T) {
	all := append(strange(), 1, 2, 3)
	for seed := range int64(20000) {
		m := strangeMap(seed)
		id := all[seed%int64(len(all))]
		if len(m.Areas) > 0 && seed%2 == 0 {
			id = m.Areas[0].Id
		}
		if got := impl.Assemble(m, id); !sameRings(got, ringsOf(m, id)) {
			t.Fatal(m, id, got)
		}
	}
}

func TestRingsOfEveryKindAreAnswered(t *testing.T) {
	tell := numbers(50)
	pick := func() impl.Point {
		all := append(strangePoints(), path(0, 0, 1, 1, 5, 5, 0, 1, 1, 0, 0, 0, 1, 1, 5, 5, 0, 1, 1, 0)...)
		return all[tell.Intn(len(all))]
	}
	for range 20000 {
		rs := make([]impl.Ring, tell.Intn(4))
		for i := range rs {
			for range tell.Intn(5) {
				rs[i].Row = append(rs[i].Row, pick())
			}
			rs[i].Inner = tell.Intn(2) == 0
		}
		p := pick()
		if got := impl.Inside(rs, p); got != insideOf(rs, p) {
			t.Fatal("Inside", rs, p, got)
		}
		if got := impl.Orient(rs); !slices.EqualFunc(got, orientOf(rs), sameRing) {
			t.Fatal("Orient", rs, got)
		}
		if got := impl.Nesting(rs); !slices.Equal(got, nestingOf(rs)) {
			t.Fatal("Nesting", rs, got)
		}
	}
}

func TestTheSameRingsAreAnsweredAgain(t *testing.T) {
	for _, m := range areasToGuard() {
		answer := impl.Assemble(m, drawnArea)
		impl.Assemble(town(), 3)
		for range 3 {
			checkAssembled(t, "again", m, drawnArea, answer)
		}
	}
	for _, rs := range ringsToGuard() {
		oriented, depths, inside := impl.Orient(rs), impl.Nesting(rs), impl.Inside(rs, at(3, 3))
		impl.Orient(manyRings(3))
		if !slices.EqualFunc(impl.Orient(rs), oriented, sameRing) || !slices.Equal(impl.Nesting(rs), depths) || impl.Inside(rs, at(3, 3)) != inside {
			t.Fatal("a call hangs on the one ahead of it:", rs)
		}
	}
}

// The greatest area: every Part a ring of its own, each as long as it may be.
func TestTheGreatestArea(t *testing.T) {
	var strokes []stroke
	for range impl.MaxTags {
		strokes = append(strokes, stroke{row: fan(impl.MaxRow)})
	}
	answer := impl.Assemble(drawn(strokes...), drawnArea)
	if answer.Fault != impl.RingsOk || len(answer.Rings) != impl.MaxTags || !slices.Equal(answer.Rings[impl.MaxTags-1].Row, fan(impl.MaxRow)) {
		t.Error(answer.Fault, answer.Way, len(answer.Rings))
	}
}
