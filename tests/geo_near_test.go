package tests

import (
	"math"
	"math/big"
	"slices"
	"testing"

	"loop.example/g00024/impl"
)

// Promise 2: what is simplified stays within what is said; what is nearest is on the stretch.

// floorShare is n times part / whole, rounded down, in numbers without end.
func floorShare(n int64, part int64, whole int64) int64 {
	all := number(n)
	all.Mul(all, number(part))
	return new(big.Int).Div(all, number(whole)).Int64() // whole is above 0: rounded down
}

func nearestByWords(a impl.Point, b impl.Point, p impl.Point) impl.Point {
	u, v := step(a, b), step(a, p)
	uv, uu := u.X*v.X+u.Y*v.Y, u.X*u.X+u.Y*u.Y
	switch {
	case uv <= 0 || uu == 0:
		return a
	case uv >= uu:
		return b
	}
	return at(a.X+floorShare(u.X, uv, uu), a.Y+floorShare(u.Y, uv, uu))
}

func nearByWords(row []impl.Point, p impl.Point) impl.Foot {
	if len(row) == 1 {
		row = []impl.Point{row[0], row[0]}
	}
	var best impl.Foot
	for i := len(row) - 2; i >= 0; i-- {
		q := nearestByWords(row[i], row[i+1], p)
		foot := impl.Foot{Leg: int64(i), At: impl.Distance(row[i], q), Point: q, Far: impl.Distance(p, q)}
		if i == len(row)-2 || foot.Far <= best.Far {
			best = foot
		}
	}
	return best
}

func TestNear(t *testing.T) {
	const m = impl.MaxCoord
	bend := []impl.Point{at(0, 0), at(10, 0), at(10, 10)}
	for _, c := range []struct {
		row  []impl.Point
		p    impl.Point
		want impl.Foot
	}{
		{bend, at(12, 4), impl.Foot{Leg: 1, At: 4, Point: at(10, 4), Far: 2}},
		{bend, at(4, 3), impl.Foot{Leg: 0, At: 4, Point: at(4, 0), Far: 3}},
		{bend, at(-3, -4), impl.Foot{Leg: 0, At: 0, Point: at(0, 0), Far: 5}},
		{bend, at(13, 14), impl.Foot{Leg: 1, At: 10, Point: at(10, 10), Far: 5}},
		// The corner belongs to both: the first stretch counts.
		{bend, at(10, 0), impl.Foot{Leg: 0, At: 10, Point: at(10, 0), Far: 0}},
		{bend, at(13, -4), impl.Foot{Leg: 0, At: 10, Point: at(10, 0), Far: 5}},
		// As near to both stretches.
		{bend, at(7, 3), impl.Foot{Leg: 0, At: 7, Point: at(7, 0), Far: 3}},
		// Nearer to the second stretch by less than what is rounded away: 1.41 and 1.
		{[]impl.Point{at(0, 0), at(1, 1), at(2, 2)}, at(2, 1), impl.Foot{Leg: 0, At: 1, Point: at(1, 1), Far: 1}},
		// Back and forth on one line.
		{[]impl.Point{at(0, 0), at(10, 0), at(0, 0)}, at(4, 1), impl.Foot{Leg: 0, At: 4, Point: at(4, 0), Far: 1}},
		// One point, and stretches of one point.
		{[]impl.Point{at(3, 4)}, at(0, 0), impl.Foot{Leg: 0, At: 0, Point: at(3, 4), Far: 5}},
		{[]impl.Point{at(3, 4)}, at(3, 4), impl.Foot{Leg: 0, At: 0, Point: at(3, 4), Far: 0}},
		{[]impl.Point{at(3, 4), at(3, 4)}, at(0, 0), impl.Foot{Leg: 0, At: 0, Point: at(3, 4), Far: 5}},
		{[]impl.Point{at(9, 9), at(9, 9), at(9, 0)}, at(9, 2), impl.Foot{Leg: 1, At: 7, Point: at(9, 2), Far: 0}},
		{[]impl.Point{at(9, 9), at(9, 0), at(9, 0)}, at(9, -2), impl.Foot{Leg: 0, At: 9, Point: at(9, 0), Far: 2}},
		// Rounded down to the west and to the south, whichever way the stretch goes.
		{[]impl.Point{at(0, 0), at(3, 3)}, at(1, 2), impl.Foot{Leg: 0, At: 1, Point: at(1, 1), Far: 1}},
		{[]impl.Point{at(3, 3), at(0, 0)}, at(1, 2), impl.Foot{Leg: 0, At: 3, Point: at(1, 1), Far: 1}},
		{[]impl.Point{at(0, 0), at(-3, -3)}, at(-1, -2), impl.Foot{Leg: 0, At: 3, Point: at(-2, -2), Far: 1}},
		{[]impl.Point{at(-3, -3), at(0, 0)}, at(-1, -2), impl.Foot{Leg: 0, At: 1, Point: at(-2, -2), Far: 1}},
		// Just inside the ends: u v is 1, and u u less 1.
		{[]impl.Point{at(0, 0), at(5, 2)}, at(1, -2), impl.Foot{Leg: 0, At: 0, Point: at(0, 0), Far: 2}},
		{[]impl.Point{at(0, 0), at(-5, -2)}, at(-1, 2), impl.Foot{Leg: 0, At: 1, Point: at(-1, -1), Far: 3}},
		{[]impl.Point{at(0, 0), at(5, 2)}, at(4, 4), impl.Foot{Leg: 0, At: 4, Point: at(4, 1), Far: 3}},
		// u v is 0, and u u.
		{[]impl.Point{at(0, 0), at(-5, -2)}, at(2, -5), impl.Foot{Leg: 0, At: 0, Point: at(0, 0), Far: 5}},
		{[]impl.Point{at(0, 0), at(5, 2)}, at(3, 7), impl.Foot{Leg: 0, At: 5, Point: at(5, 2), Far: 5}},
		// Products that one word does not hold.
		{[]impl.Point{at(-m, -m), at(m, m)}, at(m, -m), impl.Foot{Leg: 0, At: 14142136, Point: at(0, 0), Far: 14142136}},
		{[]impl.Point{at(m, m), at(-m, -m)}, at(m, m-1), impl.Foot{Leg: 0, At: 1, Point: at(m-1, m-1), Far: 1}},
		{[]impl.Point{at(-m, -m), at(m, m)}, at(m, m-1), impl.Foot{Leg: 0, At: 28284270, Point: at(m-1, m-1), Far: 1}},
		{[]impl.Point{at(-m, m), at(m, -m)}, at(m, 1-m), impl.Foot{Leg: 0, At: 28284271, Point: at(m-1, -m), Far: 1}},
	} {
		if got := impl.Near(c.row, c.p); got != c.want {
			t.Errorf("Near(%v, %v) = %+v, want %+v", c.row, c.p, got, c.want)
		}
	}
}

func TestNearOfRowsOfEveryLength(t *testing.T) {
	full := stairs(impl.MaxRow)
	if got := impl.Near(full, at(impl.MaxRow+4, 0)); got != (impl.Foot{Leg: impl.MaxRow - 2, At: 1, Point: full[impl.MaxRow-1], Far: 5}) {
		t.Error(got)
	}
	// The point belongs to the end of the one and the beginning of the other.
	if got := impl.Near(full, at(700, 0)); got != (impl.Foot{Leg: 699, At: 1, Point: at(700, 0), Far: 0}) {
		t.Error(got)
	}
	// One stretch ahead it is 3.16, which is as far as 3.
	if got := impl.Near(full, at(700, 3)); got != (impl.Foot{Leg: 698, At: 1, Point: at(699, 0), Far: 3}) {
		t.Error(got)
	}
	none := impl.Foot{Leg: -1}
	for _, row := range append(noRows(), nil, []impl.Point{}) {
		if got := impl.Near(row, at(0, 0)); got != none {
			t.Error(len(row), got)
		}
	}
	for _, p := range outside() {
		for _, row := range [][]impl.Point{nil, stairs(1), stairs(2), full} {
			if got := impl.Near(row, p); got != none {
				t.Error(len(row), p, got)
			}
		}
	}
}

// checkFoot asks that the place is on the stretch: in its box, within one place of the line, and no farther along than it is long.
func checkFoot(t *testing.T, row []impl.Point, p impl.Point, foot impl.Foot) {
	t.Helper()
	a := row[foot.Leg]
	b := row[min(int(foot.Leg)+1, len(row)-1)]
	box := impl.Bounds([]impl.Point{a, b})
	q := foot.Point
	if q.X < box.Low.X || q.X > box.High.X || q.Y < box.Low.Y || q.Y > box.High.Y {
		t.Errorf("Near(%v, %v) = %+v: beside the box of its stretch", row, p, foot)
	}
	u := step(a, b)
	if off := product(u, step(a, q)); max(off, -off) > max(u.X, -u.X)+max(u.Y, -u.Y) {
		t.Errorf("Near(%v, %v) = %+v: beside its stretch", row, p, foot)
	}
	if foot.At < 0 || foot.At > impl.Distance(a, b) || foot.At != impl.Distance(a, q) || foot.Far != impl.Distance(p, q) {
		t.Errorf("Near(%v, %v) = %+v: At or Far", row, p, foot)
	}
}

func TestNearIsNearestAndOnTheStretch(t *testing.T) {
	tell := numbers(7)
	for range 20000 {
		most := int64(impl.MaxCoord) >> tell.Intn(24)
		row := someRow(tell, 1+tell.Intn(6), most)
		p := somewhere(tell, most)
		got := impl.Near(row, p)
		if want := nearByWords(row, p); got != want {
			t.Errorf("Near(%v, %v) = %+v, want %+v", row, p, got, want)
		}
		checkFoot(t, row, p, got)
	}
}

// No place of the plane that lies just on the row is nearer than Far by more than what is rounded away.
func TestNearLeavesNothingNearer(t *testing.T) {
	tell := numbers(8)
	for range 300 {
		row := someRow(tell, 1+tell.Intn(4), 8)
		p := somewhere(tell, 12)
		far := impl.Near(row, p).Far
		for i := range row {
			a, b := row[i], row[min(i+1, len(row)-1)]
			for x := int64(-8); x <= 8; x++ {
				for y := int64(-8); y <= 8; y++ {
					if onStretch(a, b, at(x, y)) && impl.Distance(p, at(x, y))+2 < far {
						t.Fatal(row, p, far, x, y)
					}
				}
			}
		}
	}
}

// simplifyByWords marks what stays, from the whole row to its halves, without the program's own way of it.
func simplifyByWords(row []impl.Point, most int64) []impl.Point {
	stays := make([]bool, len(row))
	open := [][2]int{{0, len(row) - 1}}
	for len(open) > 0 {
		first, last := open[0][0], open[0][1]
		open = open[1:]
		stays[first], stays[last] = true, true
		far, which := most, -1
		for i := last - 1; i > first; i-- {
			here := nearByWords([]impl.Point{row[first], row[last]}, row[i]).Far
			if here > far || here == far && which >= 0 {
				far, which = here, i
			}
		}
		if which >= 0 {
			open = append(open, [2]int{first, which}, [2]int{which, last})
		}
	}
	var kept []impl.Point
	for i, p := range row {
		if stays[i] {
			kept = append(kept, p)
		}
	}
	return kept
}

func TestSimplify(t *testing.T) {
	const m = impl.MaxCoord
	bow := []impl.Point{at(0, 0), at(5, 1), at(10, 0), at(10, 9)}
	// Both middle points are as far: the first stays, and then the other one is 4 away from the second half.
	twin := []impl.Point{at(0, 0), at(2, 5), at(8, 5), at(10, 0)}
	for _, c := range []struct {
		row  []impl.Point
		most int64
		want []impl.Point
	}{
		{nil, 0, nil},
		{[]impl.Point{}, 5, nil},
		{[]impl.Point{at(m, -m)}, 0, []impl.Point{at(m, -m)}},
		{[]impl.Point{at(1, 1), at(2, 2)}, 1000, []impl.Point{at(1, 1), at(2, 2)}},
		{[]impl.Point{at(1, 1), at(1, 1)}, 0, []impl.Point{at(1, 1), at(1, 1)}},
		{[]impl.Point{at(1, 1), at(1, 1), at(1, 1)}, 0, []impl.Point{at(1, 1), at(1, 1)}},
		{bow, 1, []impl.Point{at(0, 0), at(10, 0), at(10, 9)}},
		{bow, 0, bow},
		{bow, 5, []impl.Point{at(0, 0), at(10, 0), at(10, 9)}},
		{bow, 6, []impl.Point{at(0, 0), at(10, 9)}},
		{bow, math.MaxInt64, []impl.Point{at(0, 0), at(10, 9)}},
		{twin, 5, []impl.Point{at(0, 0), at(10, 0)}},
		{twin, 4, []impl.Point{at(0, 0), at(2, 5), at(10, 0)}},
		{twin, 3, twin},
		{twin, 0, twin},
		// A row that ends where it begins: the stretch is one point.
		{[]impl.Point{at(0, 0), at(9, 0), at(9, 9), at(0, 9), at(0, 0)}, 10, []impl.Point{at(0, 0), at(9, 9), at(0, 0)}},
		// What lies on the line but beyond its end is far.
		{[]impl.Point{at(0, 0), at(20, 0), at(10, 0)}, 9, []impl.Point{at(0, 0), at(20, 0), at(10, 0)}},
		{[]impl.Point{at(0, 0), at(20, 0), at(10, 0)}, 10, []impl.Point{at(0, 0), at(10, 0)}},
		{[]impl.Point{at(-m, -m), at(m, -m), at(m, m)}, 14142135, []impl.Point{at(-m, -m), at(m, -m), at(m, m)}},
		{[]impl.Point{at(-m, -m), at(m, -m), at(m, m)}, 14142136, []impl.Point{at(-m, -m), at(m, m)}},
	} {
		if got := impl.Simplify(c.row, c.most); !slices.Equal(got, c.want) {
			t.Errorf("Simplify(%v, %d) = %v, want %v", c.row, c.most, got, c.want)
		}
	}
}

func TestSimplifyOfWhatCannotBe(t *testing.T) {
	for _, row := range noRows() {
		for _, most := range []int64{0, 5, math.MaxInt64} {
			if got := impl.Simplify(row, most); len(got) != 0 {
				t.Error(len(row), most, len(got))
			}
		}
	}
	for _, most := range []int64{-1, -7, math.MinInt64} {
		for _, count := range []int{0, 1, 2, 3, impl.MaxRow} {
			if got := impl.Simplify(stairs(count), most); len(got) != 0 {
				t.Error(count, most, got)
			}
		}
	}
}

// zigzag is a row of which each half of what is left has but one point: as deep as a row can be.
func zigzag(count int) []impl.Point {
	row := make([]impl.Point, count)
	for i := range row {
		high := int64(count-i) * 4000
		row[i] = at(int64(i), high-2*high*int64(i%2))
	}
	return row
}

func TestSimplifyOfTheGreatestRows(t *testing.T) {
	if got := impl.Simplify(stairs(impl.MaxRow), 0); !slices.Equal(got, []impl.Point{at(0, 0), at(impl.MaxRow-1, 0)}) {
		t.Error(len(got))
	}
	deep := zigzag(impl.MaxRow)
	if got := impl.Simplify(deep, 0); !slices.Equal(got, deep) {
		t.Error(len(got))
	}
}

// checkKept asks that the ends stay, the order too, and that what went lies within most of the stretch that took its place.
func checkKept(t *testing.T, row []impl.Point, most int64, kept []impl.Point) {
	t.Helper()
	if len(kept) == 0 || kept[0] != row[0] || kept[len(kept)-1] != row[len(row)-1] {
		t.Fatalf("Simplify(%v, %d) = %v: the ends", row, most, kept)
	}
	from := 0
	for k := 1; k < len(kept); k++ {
		to := from + 1
		for to < len(row) && !(row[to] == kept[k] && fits(row[from+1:to], kept[k-1], kept[k], most)) {
			to++
		}
		if to == len(row) {
			t.Fatalf("Simplify(%v, %d) = %v: not within what is said, from point %d on", row, most, kept, k)
		}
		from = to
	}
}

func fits(gone []impl.Point, a impl.Point, b impl.Point, most int64) bool {
	for _, p := range gone {
		if impl.Near([]impl.Point{a, b}, p).Far > most {
			return false
		}
	}
	return true
}

func TestSimplifyStaysWithin(t *testing.T) {
	tell := numbers(9)
	for range 3000 {
		size := int64(impl.MaxCoord) >> tell.Intn(24)
		row := someRow(tell, 1+tell.Intn(40), size)
		most := tell.Int63n(size + 2)
		kept := impl.Simplify(row, most)
		if want := simplifyByWords(row, most); !slices.Equal(kept, want) {
			t.Errorf("Simplify(%v, %d) = %v, want %v", row, most, kept, want)
		}
		checkKept(t, row, most, kept)
	}
}

func TestBounds(t *testing.T) {
	const m = impl.MaxCoord
	for _, c := range []struct {
		row  []impl.Point
		want impl.Box
	}{
		{nil, impl.Box{}},
		{[]impl.Point{}, impl.Box{}},
		{[]impl.Point{at(3, 1), at(-2, 5)}, impl.Box{Low: at(-2, 1), High: at(3, 5)}},
		{[]impl.Point{at(-7, -9)}, impl.Box{Low: at(-7, -9), High: at(-7, -9)}},
		{[]impl.Point{at(7, 9), at(8, 8), at(9, 7)}, impl.Box{Low: at(7, 7), High: at(9, 9)}},
		{[]impl.Point{at(m, 0), at(0, -m), at(-m, 0), at(0, m)}, impl.Box{Low: at(-m, -m), High: at(m, m)}},
		{stairs(impl.MaxRow), impl.Box{High: at(impl.MaxRow-1, 0)}},
	} {
		if got := impl.Bounds(c.row); got != c.want {
			t.Error(len(c.row), got, c.want)
		}
	}
	for _, row := range noRows() {
		if got := impl.Bounds(row); got != (impl.Box{}) {
			t.Error(len(row), got)
		}
	}
}

func TestBoundsAreMetOnAllSides(t *testing.T) {
	tell := numbers(10)
	for range 2000 {
		row := someRow(tell, 1+tell.Intn(30), int64(impl.MaxCoord)>>tell.Intn(24))
		byX := func(a impl.Point, b impl.Point) int { return int(a.X - b.X) }
		byY := func(a impl.Point, b impl.Point) int { return int(a.Y - b.Y) }
		want := impl.Box{
			Low:  at(slices.MinFunc(row, byX).X, slices.MinFunc(row, byY).Y),
			High: at(slices.MaxFunc(row, byX).X, slices.MaxFunc(row, byY).Y),
		}
		if got := impl.Bounds(row); got != want {
			t.Error(row, got, want)
		}
	}
}
