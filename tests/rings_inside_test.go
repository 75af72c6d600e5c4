package tests

import (
	"fmt"
	"math/rand"
	"slices"
	"testing"

	"loop.example/g00024/impl"
)

// Promise 4, of AreaTwice, Inside, Orient and Nesting: inside is even and odd; orientation changes nothing of it.

// manyRings are so many small squares beside each other.
func manyRings(count int) []impl.Ring {
	var rs []impl.Ring
	for i := range count {
		rs = append(rs, square(int64(i)*10, 0, 5))
	}
	return rs
}

// noRings are lists that can't be: one ring too many, or one with a row that is none, wherever it stands.
func noRings() map[string][]impl.Ring {
	lists := map[string][]impl.Ring{"one too many": manyRings(impl.MaxRings + 1), "far too many": make([]impl.Ring, 1<<16)}
	for i, bad := range noRows() {
		lists[fmt.Sprint("alone ", i)] = []impl.Ring{{Row: bad}}
		for k := range 3 {
			rs := manyRings(3)
			rs[k].Row = bad
			lists[fmt.Sprint("one of three ", i, k)] = rs
		}
	}
	full := manyRings(impl.MaxRings)
	full[impl.MaxRings-1].Row = stairs(impl.MaxRow + 1)
	lists["the last of all"] = full
	return lists
}

func TestAreaTwice(t *testing.T) {
	const m = impl.MaxCoord
	plane := path(-m, -m, m, -m, m, m, -m, m, -m, -m)
	for _, c := range []struct {
		row  []impl.Point
		want int64
	}{
		{nil, 0}, {path(5, 7), 0}, {path(5, 7, 5, 7), 0}, {path(0, 0, 10, 0, 0, 10, 0, 0), 100}, {path(0, 0, 0, 10, 10, 0, 0, 0), -100},
		{path(3, 3, 13, 3, 3, 13, 3, 3), 100}, {path(-3, -3, -3, 7, 7, -3, -3, -3), -100}, {path(0, 0, 5, 0, 10, 0, 5, 0, 0, 0), 0},
		{path(2, 1, 7, 3, 9, 9, 7, 3, 2, 1), 0}, {path(0, 0, 10, 10, 10, 0, 0, 10, 0, 0), 0},
		{plane, 8 * m * m}, {turned(plane), -8 * m * m}, {path(-m, -m, m, -m, m, m, -m, -m), 4 * m * m}, {path(m, m, -m, m, -m, m-1, m, m), 2 * m},
		// What is not closed is not closed for it.
		{path(2, 3, 5, 7), -1}, {path(1, 0, 1, 1, 0, 1), 2}, {path(m, -m, m, m), 2 * m * m}, {path(m, m, m, -m), -2 * m * m},
	} {
		if got := impl.AreaTwice(c.row); got != c.want {
			t.Error(c.row, got, c.want)
		}
	}
	for _, row := range noRows() {
		if got := impl.AreaTwice(row); got != 0 {
			t.Error("no row of", len(row), "has", got)
		}
	}
}

func TestAreaTwiceIsExact(t *testing.T) {
	tell := numbers(44)
	for i := range 3000 {
		row := someRow(tell, 1+tell.Intn(20), []int64{3, 1000, impl.MaxCoord}[i%3])
		row = append(row, row[0])
		want := areaOf(row)
		if got := number(impl.AreaTwice(row)); got.Cmp(want) != 0 {
			t.Fatal(row, got, want)
		}
		if impl.AreaTwice(turned(row)) != -impl.AreaTwice(row) {
			t.Fatal("turned round", row)
		}
	}
	// The greatest of all: as often round the plane as a row can go.
	plane := path(-impl.MaxCoord, -impl.MaxCoord, impl.MaxCoord, -impl.MaxCoord, impl.MaxCoord, impl.MaxCoord, -impl.MaxCoord, impl.MaxCoord)
	var row []impl.Point
	for i := range impl.MaxRow {
		row = append(row, plane[i%4])
	}
	if got, want := impl.AreaTwice(row), int64(impl.MaxRow-1)*2*impl.MaxCoord*impl.MaxCoord; got != want || impl.AreaTwice(turned(row)) != -want {
		t.Error(got, want)
	}
}

func checkInside(t *testing.T, name string, rs []impl.Ring, p impl.Point, want int64) {
	t.Helper()
	if got := impl.Inside(rs, p); got != want {
		t.Error(name, short(rs), p, "is", got, "and not", want)
	}
}

func TestInside(t *testing.T) {
	// A house with a slanting roof, a level floor and upright walls, to both sides.
	house := ring(false, 0, 0, 20, 0, 20, 10, 10, 20, 0, 10, 0, 0)
	for _, rs := range [][]impl.Ring{{house}, {{Row: turned(house.Row)}}, {insideOut(house)}, {{}, house, {Row: path(5, 5)}}} {
		for _, p := range house.Row {
			checkInside(t, "corner", rs, p, 0)
		}
		for _, p := range path(1, 0, 10, 0, 19, 0, 0, 5, 20, 1, 20, 9, 15, 15, 11, 19, 5, 15, 1, 11) {
			checkInside(t, "on a stretch", rs, p, 0)
		}
		for _, p := range path(1, 1, 10, 10, 19, 9, 10, 19, 1, 10, 19, 10, 14, 15, 6, 15, 10, 1) {
			checkInside(t, "inside", rs, p, 1)
		}
		for _, p := range path(-1, 0, 21, 0, -1, 5, 21, 5, 10, -1, 10, 21, 9, 20, 11, 20, 4, 15, 16, 15, -1, 10, 21, 10, 19, 12, -5, 20, 25, 20) {
			checkInside(t, "outside", rs, p, -1)
		}
	}
}

func TestInsideOfHolesAndIslands(t *testing.T) {
	rs := []impl.Ring{square(0, 0, 100), insideOut(square(10, 10, 80)), square(20, 20, 60), insideOut(square(30, 30, 40))}
	for _, order := range orders(4) {
		var list []impl.Ring
		for _, i := range order {
			list = append(list, rs[i])
		}
		for x, want := range map[int64]int64{-5: -1, 0: 0, 5: 1, 10: 0, 15: -1, 20: 0, 25: 1, 30: 0, 35: -1, 50: -1, 70: 0, 75: 1, 80: 0, 85: -1, 90: 0, 95: 1, 100: 0, 105: -1} {
			checkInside(t, "level", list, at(x, 50), want)
			checkInside(t, "upright", list, at(50, x), want)
			checkInside(t, "slanting", list, at(x, x), want)
		}
	}
	// The flag does not count, only how many stretches there are.
	checkInside(t, "both outer", []impl.Ring{square(0, 0, 10), square(2, 2, 4)}, at(3, 3), -1)
	checkInside(t, "both inner", []impl.Ring{insideOut(square(0, 0, 10)), insideOut(square(2, 2, 4))}, at(3, 3), -1)
	checkInside(t, "the same twice", []impl.Ring{square(0, 0, 10), square(0, 0, 10)}, at(3, 3), -1)
	checkInside(t, "the same thrice", []impl.Ring{square(0, 0, 10), square(0, 0, 10), square(0, 0, 10)}, at(3, 3), 1)
	checkInside(t, "on the second alone", []impl.Ring{square(0, 0, 10), square(2, 2, 4)}, at(6, 3), 0)
	checkInside(t, "where two overlap", []impl.Ring{square(0, 0, 10), square(5, 5, 10)}, at(7, 7), -1)
}

// Corners at the point's height: passed, touched from below and from above, and with level stretches between.
func TestInsideAtTheHeightOfACorner(t *testing.T) {
	diamond := ring(false, 0, 0, 10, -10, 20, 0, 10, 10, 0, 0)
	for x, want := range map[int64]int64{-1: -1, 0: 0, 1: 1, 10: 1, 19: 1, 20: 0, 21: -1} {
		checkInside(t, "passed", []impl.Ring{diamond}, at(x, 0), want)
	}
	// Teeth that end at height 10 from below, and at height 4 from above.
	teeth := ring(false, 0, 0, 40, 0, 40, 20, 35, 4, 30, 20, 25, 4, 20, 10, 15, 4, 10, 10, 0, 4, 0, 0)
	for x, want := range map[int64]int64{-1: -1, 5: -1, 9: -1, 10: 0, 11: -1, 19: -1, 20: 0, 21: -1, 27: 1, 30: 1, 35: -1, 39: 1, 41: -1} {
		checkInside(t, "touched from below", []impl.Ring{teeth}, at(x, 10), want)
	}
	for x, want := range map[int64]int64{-1: -1, 0: 0, 1: 1, 14: 1, 15: 0, 16: 1, 24: 1, 25: 0, 26: 1, 35: 0, 36: 1, 40: 0, 41: -1} {
		checkInside(t, "touched from above", []impl.Ring{teeth}, at(x, 4), want)
	}
	// Stairs: the ring goes up, then level, then up again, and comes down by level stretches too.
	flight := ring(false, 0, 0, 40, 0, 40, 10, 30, 10, 30, 20, 20, 20, 20, 10, 10, 10, 10, 20, 0, 20, 0, 0)
	for x, want := range map[int64]int64{-1: -1, 0: 0, 1: 1, 9: 1, 10: 0, 15: 0, 20: 0, 21: 1, 29: 1, 30: 0, 35: 0, 40: 0, 41: -1} {
		checkInside(t, "level stretches", []impl.Ring{flight}, at(x, 10), want)
	}
	for x, want := range map[int64]int64{-1: -1, 0: 0, 10: 0, 11: -1, 19: -1, 20: 0, 25: 0, 30: 0, 31: -1, 40: -1} {
		checkInside(t, "level at the top", []impl.Ring{flight}, at(x, 20), want)
	}
	for x, want := range map[int64]int64{-1: -1, 0: 0, 20: 0, 40: 0, 41: -1} {
		checkInside(t, "level at the bottom", []impl.Ring{flight}, at(x, 0), want)
	}
	// Slanting past the point by less than one.
	sliver := ring(false, 0, 0, 1000, 1, 999, 1, -1000, -1, 0, 0)
	checkInside(t, "sliver", []impl.Ring{sliver}, at(1, 0), -1)
	checkInside(t, "sliver", []impl.Ring{sliver}, at(-1, 0), -1)
}

func TestInsideAtTheGreatestNumbers(t *testing.T) {
	const m = impl.MaxCoord
	half := ring(false, -m, -m, m, -m, m, m, -m, -m)
	for _, c := range []struct {
		p    impl.Point
		want int64
	}{
		{at(0, 0), 0}, {at(1, 0), 1}, {at(-1, 0), -1}, {at(m, m), 0}, {at(m, m-1), 0}, {at(m-1, m), -1}, {at(m-1, m-1), 0}, {at(m-1, m-2), 1},
		{at(-m, -m), 0}, {at(-m, -m+1), -1}, {at(-m+2, -m+1), 1}, {at(-m, m), -1}, {at(m, -m), 0},
	} {
		checkInside(t, "half the plane", []impl.Ring{half}, c.p, c.want)
	}
	hair := ring(false, -m, -m, m, m-1, m, m, -m, -m)
	checkInside(t, "on the hair", []impl.Ring{hair}, at(0, 0), 0)
	checkInside(t, "at its end", []impl.Ring{hair}, at(m-1, m-1), 0)
	checkInside(t, "beside it", []impl.Ring{hair}, at(0, -1), -1)
	checkInside(t, "above it", []impl.Ring{hair}, at(0, 1), -1)
}

func TestInsideOfNoRings(t *testing.T) {
	checkInside(t, "none", nil, at(0, 0), -1)
	checkInside(t, "none", []impl.Ring{}, at(0, 0), -1)
	checkInside(t, "empty rows", make([]impl.Ring, impl.MaxRings), at(0, 0), -1)
	checkInside(t, "a single point has no stretch", []impl.Ring{{Row: path(3, 3)}}, at(3, 3), -1)
	checkInside(t, "one stretch without length", []impl.Ring{{Row: path(3, 3, 3, 3)}}, at(3, 3), 0)
	checkInside(t, "beside it", []impl.Ring{{Row: path(3, 3, 3, 3)}}, at(2, 3), -1)
	// Rows that are not closed have the stretches that they have.
	wall := []impl.Ring{{Row: path(10, -5, 10, 5)}}
	for p, want := range map[impl.Point]int64{at(0, 0): 1, at(10, 0): 0, at(11, 0): -1, at(0, -5): 1, at(0, 5): -1, at(0, -6): -1, at(9, 4): 1} {
		checkInside(t, "a wall", wall, p, want)
	}
	checkInside(t, "MaxRings", manyRings(impl.MaxRings), at(391, 1), 1)
	checkInside(t, "MaxRings, between", manyRings(impl.MaxRings), at(1, 1), 1)
	checkInside(t, "MaxRings, on the last", manyRings(impl.MaxRings), at(395, 1), 0)
	checkInside(t, "one more", manyRings(impl.MaxRings+1), at(1, 1), -1)
	checkInside(t, "one more, on a stretch", manyRings(impl.MaxRings+1), at(0, 1), -1)
	long := []impl.Ring{{Row: fan(impl.MaxRow)}}
	checkInside(t, "MaxRow", long, at(9, 1000), 1)
	checkInside(t, "MaxRow, on it", long, at(10, 1000), 0)
	checkInside(t, "MaxRow and one more", []impl.Ring{{Row: fan(impl.MaxRow + 1)}}, at(9, 1000), -1)
	for name, rs := range noRings() {
		for _, p := range path(1, 1, 0, 0, 11, 1, 2, 5, 1, 0) {
			checkInside(t, name, rs, p, -1)
		}
	}
	for _, p := range outside() {
		checkInside(t, "no point", []impl.Ring{square(-impl.MaxCoord, -impl.MaxCoord, 2*impl.MaxCoord)}, p, -1)
		checkInside(t, "no point, no rings", nil, p, -1)
	}
}

// eachQuestion asks about rings by chance at points by chance, many of them at the rings' own points and heights.
func eachQuestion(r *rand.Rand, count int, ask func(rs []impl.Ring, p impl.Point)) {
	for i := range count {
		size := []int64{3, 5, 40, impl.MaxCoord}[i%4]
		rs := someRings(r, 4, size)
		p := somewhere(r, size)
		for _, ring := range rs {
			if len(ring.Row) > 0 && r.Intn(3) == 0 {
				near := ring.Row[r.Intn(len(ring.Row))]
				p = at([]int64{p.X, near.X}[r.Intn(2)], near.Y)
			}
		}
		ask(rs, p)
	}
}

func TestInsideAgainstTheWords(t *testing.T) {
	seen := map[int64]int{}
	eachQuestion(numbers(45), 60000, func(rs []impl.Ring, p impl.Point) {
		want := insideOf(rs, p)
		if got := impl.Inside(rs, p); got != want {
			t.Fatal(rs, p, got, want)
		}
		seen[want]++
	})
	if seen[0] < 1000 || seen[1] < 1000 || seen[-1] < 1000 {
		t.Error("too few of a kind:", seen)
	}
}

func TestInsideIsTheSameBehindOrient(t *testing.T) {
	eachQuestion(numbers(46), 30000, func(rs []impl.Ring, p impl.Point) {
		oriented := impl.Orient(rs)
		if ahead, behind := impl.Inside(rs, p), impl.Inside(oriented, p); ahead != behind {
			t.Fatal(rs, p, ahead, behind)
		}
		for i, r := range oriented {
			if twice := impl.AreaTwice(r.Row); r.Inner && twice > 0 || !r.Inner && twice < 0 || r.Inner != rs[i].Inner {
				t.Fatal("goes the wrong way:", r)
			}
		}
	})
}

func TestInsideOfAllIsOddAndEven(t *testing.T) {
	eachQuestion(numbers(47), 30000, func(rs []impl.Ring, p impl.Point) {
		odd, on := int64(-1), false
		for _, r := range rs {
			switch impl.Inside([]impl.Ring{r}, p) {
			case 0:
				on = true
			case 1:
				odd = -odd
			}
		}
		if got := impl.Inside(rs, p); on && got != 0 || !on && got != odd {
			t.Fatal(rs, p, got, odd, on)
		}
	})
}

func checkOriented(t *testing.T, name string, rs []impl.Ring, want ...impl.Ring) {
	t.Helper()
	if got := impl.Orient(rs); !slices.EqualFunc(got, want, sameRing) {
		t.Error(name, short(got), "and not", short(want))
	}
}

func TestOrient(t *testing.T) {
	left := path(0, 0, 10, 0, 10, 10, 5, 12, 0, 0)
	right := turned(left)
	flat, bow := path(1, 1, 9, 1, 5, 1, 1, 1), path(0, 0, 10, 10, 10, 0, 0, 10, 0, 0)
	out := func(row []impl.Point) impl.Ring { return impl.Ring{Row: row} }
	in := func(row []impl.Point) impl.Ring { return impl.Ring{Row: row, Inner: true} }
	checkOriented(t, "none", nil)
	checkOriented(t, "outer", []impl.Ring{out(left), out(right)}, out(left), out(left))
	checkOriented(t, "inner", []impl.Ring{in(left), in(right)}, in(right), in(right))
	checkOriented(t, "both", []impl.Ring{in(right), out(right), in(left), out(left)}, in(right), out(left), in(right), out(left))
	checkOriented(t, "no area", []impl.Ring{out(flat), in(flat), out(bow), in(bow), out(turned(flat)), in(turned(flat))},
		out(flat), in(flat), out(bow), in(bow), out(turned(flat)), in(turned(flat)))
	checkOriented(t, "short", []impl.Ring{{}, in(nil), out(path(7, 8)), in(path(7, 8))}, out(nil), in(nil), out(path(7, 8)), in(path(7, 8)))
	// What is not closed is turned round by what AreaTwice says of it.
	checkOriented(t, "open", []impl.Ring{out(path(2, 3, 5, 7)), in(path(2, 3, 5, 7))}, out(path(5, 7, 2, 3)), in(path(2, 3, 5, 7)))
	great := fan(impl.MaxRow)
	checkOriented(t, "MaxRow", []impl.Ring{in(great), out(turned(great))}, in(turned(great)), out(great))
}

func TestOrientOfAsManyAsMayBe(t *testing.T) {
	rs := manyRings(impl.MaxRings)
	for i := range rs {
		rs[i].Inner = i%2 == 1
	}
	got := impl.Orient(rs)
	if len(got) != impl.MaxRings || !slices.EqualFunc(got, orientOf(rs), sameRing) || sameRing(got[39], rs[39]) {
		t.Error(got)
	}
	for name, rs := range noRings() {
		if got := impl.Orient(rs); len(got) != 0 {
			t.Error(name, short(got))
		}
	}
}

func TestNesting(t *testing.T) {
	a, b, c := square(0, 0, 100), square(10, 10, 50), square(20, 20, 10)
	beside := square(200, 0, 10)
	for _, k := range []struct {
		name string
		rs   []impl.Ring
		want []int64
	}{
		{"none", nil, nil}, {"one", []impl.Ring{a}, []int64{0}}, {"beside", []impl.Ring{a, beside}, []int64{0, 0}},
		{"in each other", []impl.Ring{a, b}, []int64{0, 1}}, {"the other way", []impl.Ring{b, a}, []int64{1, 0}},
		{"three deep", []impl.Ring{a, b, c}, []int64{0, 1, 2}}, {"three deep, mixed", []impl.Ring{c, beside, a, b}, []int64{2, 0, 0, 1}},
		{"inner ones count too", []impl.Ring{a, insideOut(b), c}, []int64{0, 1, 2}},
		{"two in one", []impl.Ring{square(70, 70, 9), a, b}, []int64{1, 0, 1}},
		// On a ring is not inside, and so neither of two that are the same is inside the other.
		{"the same", []impl.Ring{a, a}, []int64{0, 0}}, {"the same, turned", []impl.Ring{a, {Row: turned(a.Row)}}, []int64{0, 0}},
		{"two the same in one", []impl.Ring{a, b, b}, []int64{0, 1, 1}}, {"three deep with twins", []impl.Ring{a, a, c}, []int64{0, 0, 2}},
		{"first point on a stretch", []impl.Ring{a, square(0, 50, 10)}, []int64{0, 0}},
		{"first point on a corner", []impl.Ring{a, square(0, 0, 10)}, []int64{0, 0}},
		{"another point on a stretch", []impl.Ring{a, square(50, 50, 50)}, []int64{0, 1}},
		{"the first point alone counts", []impl.Ring{a, square(90, 90, 50)}, []int64{0, 1}},
		{"though all others are inside", []impl.Ring{a, ring(false, -10, 50, 50, 40, 50, 60, -10, 50)}, []int64{0, 0}},
		{"without points", []impl.Ring{a, {}, {Row: path(5, 5)}, {Row: path(-5, 5)}}, []int64{0, 0, 1, 0}},
	} {
		if got := impl.Nesting(k.rs); !slices.Equal(got, k.want) {
			t.Error(k.name, got, k.want)
		}
	}
}

func TestNestingOfAsManyAsMayBe(t *testing.T) {
	var rs []impl.Ring
	var want []int64
	for i := range int64(impl.MaxRings) {
		rs = append(rs, square(i, i, 1000-2*i))
		want = append(want, i)
	}
	if got := impl.Nesting(rs); !slices.Equal(got, want) {
		t.Error(got)
	}
	for name, rs := range noRings() {
		if got := impl.Nesting(rs); len(got) != 0 {
			t.Error(name, short(got))
		}
	}
}

func TestOrientAndNestingAgainstTheWords(t *testing.T) {
	tell := numbers(48)
	deep := 0
	for i := range 20000 {
		rs := someRings(tell, 6, []int64{2, 5, 50, impl.MaxCoord}[i%4])
		if got := impl.Orient(rs); !slices.EqualFunc(got, orientOf(rs), sameRing) {
			t.Fatal("Orient", rs, got)
		}
		got := impl.Nesting(rs)
		if !slices.Equal(got, nestingOf(rs)) {
			t.Fatal("Nesting", rs, got)
		}
		if len(got) > 0 && slices.Max(got) > 1 {
			deep++
		}
	}
	if deep < 100 {
		t.Error("too few are deep:", deep)
	}
}

// What Assemble answers is what the others take.
func TestAssembledRingsAreAskedAbout(t *testing.T) {
	answer := impl.Assemble(drawn(outline(0, 0, 0, 30), hole(10, 10, 20, 10, 20, 20, 10, 10), outline(0, 30, 30, 30, 30, 0, 0, 0)), drawnArea)
	oriented := impl.Orient(answer.Rings)
	if len(oriented) != 2 || impl.AreaTwice(oriented[0].Row) != 1800 || impl.AreaTwice(oriented[1].Row) != -100 {
		t.Fatal(answer, oriented)
	}
	for _, rs := range [][]impl.Ring{answer.Rings, oriented} {
		checkInside(t, "inside", rs, at(5, 5), 1)
		checkInside(t, "in the hole", rs, at(19, 11), -1)
		checkInside(t, "on the hole", rs, at(15, 15), 0)
		if got := impl.Nesting(rs); !slices.Equal(got, []int64{0, 1}) {
			t.Error(got)
		}
	}
}
