package tests

import (
	"math"
	"math/big"
	"slices"
	"testing"

	"loop.example/g00024/impl"
)

// Promise 1: distances, turns and winds are exact, and the same from both sides.

func TestPointOk(t *testing.T) {
	const m = impl.MaxCoord
	for _, p := range []impl.Point{{}, at(m, m), at(-m, -m), at(m, -m), at(-m, m), at(m, 0), at(0, -m)} {
		if !impl.PointOk(p) {
			t.Error(p, "can be")
		}
	}
	for _, p := range outside() {
		if impl.PointOk(p) {
			t.Error(p, "can't be")
		}
	}
}

func checkRoot(t *testing.T, n int64) {
	t.Helper()
	want := int64(-1)
	if n >= 0 {
		want = new(big.Int).Sqrt(number(n)).Int64()
	}
	if got := impl.Root(n); got != want {
		t.Errorf("Root(%d) = %d, want %d", n, got, want)
	}
}

func TestRoot(t *testing.T) {
	for _, n := range []int64{math.MinInt64, math.MinInt64 + 1, -4, -1, 0, 1, 2, 3, 4, math.MaxInt64 - 1, math.MaxInt64} {
		checkRoot(t, n)
	}
	if got := impl.Root(math.MaxInt64); got != 3037000499 {
		t.Error(got)
	}
	for r := int64(0); r < 3000; r++ {
		checkRoot(t, r)
	}
	tell := numbers(1)
	for range 20000 {
		r := tell.Int63n(3037000499) >> tell.Intn(32)
		checkRoot(t, r*r-1)
		checkRoot(t, r*r)
		checkRoot(t, r*r+1)
		checkRoot(t, r*r+2*r)
		checkRoot(t, tell.Int63()>>tell.Intn(63))
	}
	for k := range 62 {
		checkRoot(t, int64(1)<<k-1)
		checkRoot(t, int64(1)<<k)
		checkRoot(t, int64(1)<<k+1)
	}
	checkRoot(t, 3037000499*3037000499)
	checkRoot(t, 3037000499*3037000499-1)
}

// isDistance holds d against the document's words: the least whole number with (2d + 1) squared above 4 times the square.
func isDistance(a impl.Point, b impl.Point, d int64) bool {
	dx, dy := b.X-a.X, b.Y-a.Y
	four := 4 * (dx*dx + dy*dy)
	return d >= 0 && (2*d+1)*(2*d+1) > four && (d == 0 || (2*d-1)*(2*d-1) <= four)
}

func checkDistance(t *testing.T, a impl.Point, b impl.Point) {
	t.Helper()
	d := impl.Distance(a, b)
	if !isDistance(a, b, d) {
		t.Errorf("Distance(%v, %v) = %d", a, b, d)
	}
	if back := impl.Distance(b, a); back != d {
		t.Errorf("Distance(%v, %v) = %d, and back %d", a, b, d, back)
	}
}

func TestDistance(t *testing.T) {
	const m = impl.MaxCoord
	for _, c := range []struct {
		a, b impl.Point
		want int64
	}{
		{at(0, 0), at(0, 0), 0},
		{at(m, -m), at(m, -m), 0},
		{at(-3, 5), at(-3, 5), 0},
		{at(0, 0), at(1, 0), 1},
		{at(0, 0), at(0, -1), 1},
		{at(0, 0), at(1, 1), 1},
		{at(0, 0), at(1, 2), 2},
		{at(0, 0), at(2, 2), 3},
		{at(0, 0), at(3, 4), 5},
		{at(1, 1), at(-2, -3), 5},
		{at(0, 0), at(20, 29), 35},
		{at(0, 0), at(6, 2), 6},
		{at(0, 0), at(5, 4), 6},
		{at(0, 0), at(9, 8), 12},
		{at(-m, 0), at(m, 0), 2 * m},
		{at(-m, -m), at(m, m), 28284271},
		{at(m, -m), at(-m, m), 28284271},
	} {
		if got := impl.Distance(c.a, c.b); got != c.want {
			t.Errorf("Distance(%v, %v) = %d, want %d", c.a, c.b, got, c.want)
		}
		checkDistance(t, c.a, c.b)
	}
	for x := int64(-40); x <= 40; x++ {
		for y := int64(-40); y <= 40; y++ {
			checkDistance(t, at(3, -2), at(3+x, y-2))
		}
	}
	tell := numbers(2)
	for range 30000 {
		most := int64(m) >> tell.Intn(24)
		checkDistance(t, somewhere(tell, most), somewhere(tell, most))
	}
}

// n (n + 1) is the last square that is rounded down to n; the one behind it is rounded up.
func TestDistanceAtTheHalf(t *testing.T) {
	down, up := 0, 0
	for x := int64(0); x <= 300; x++ {
		for y := int64(0); y <= x; y++ {
			square := x*x + y*y
			n := impl.Root(square)
			d := impl.Distance(at(0, 0), at(x, y))
			if square == n*n+n {
				down++
				if d != n {
					t.Errorf("just below the half: %d, %d: %d", x, y, d)
				}
			}
			if square == n*n+n+1 {
				up++
				if d != n+1 {
					t.Errorf("just above the half: %d, %d: %d", x, y, d)
				}
			}
		}
	}
	if down == 0 || up == 0 {
		t.Error("no square lies at a half")
	}
}

func TestDistanceOfWhatCannotBe(t *testing.T) {
	spoiled([]impl.Point{at(1, 2), at(3, 4)}, func(ps []impl.Point) {
		if got := impl.Distance(ps[0], ps[1]); got != -1 {
			t.Error(ps, got)
		}
	})
}

func TestLength(t *testing.T) {
	const m = impl.MaxCoord
	for _, c := range []struct {
		row  []impl.Point
		want int64
	}{
		{nil, 0},
		{[]impl.Point{}, 0},
		{[]impl.Point{at(m, m)}, 0},
		{[]impl.Point{at(0, 0), at(0, 0)}, 0},
		{[]impl.Point{at(0, 0), at(3, 4)}, 5},
		{[]impl.Point{at(0, 0), at(3, 4), at(3, 0)}, 9},
		{[]impl.Point{at(0, 0), at(3, 4), at(0, 0)}, 10},
		// Each leg is rounded by itself: five times 1, not 7.
		{[]impl.Point{at(0, 0), at(1, 1), at(2, 2), at(3, 3), at(4, 4), at(5, 5)}, 5},
		{[]impl.Point{at(-m, -m), at(m, m), at(-m, -m)}, 2 * 28284271},
		{stairs(impl.MaxRow), impl.MaxRow - 1},
	} {
		if got := impl.Length(c.row); got != c.want {
			t.Errorf("Length of %d points = %d, want %d", len(c.row), got, c.want)
		}
	}
	for _, row := range noRows() {
		if got := impl.Length(row); got != -1 {
			t.Errorf("Length of no row = %d", got)
		}
	}
}

func TestLengthOfTheGreatestRow(t *testing.T) {
	row := make([]impl.Point, impl.MaxRow)
	for i := range row {
		row[i] = at(impl.MaxCoord, impl.MaxCoord)
		if i%2 == 1 {
			row[i] = at(-impl.MaxCoord, -impl.MaxCoord)
		}
	}
	if got := impl.Length(row); got != (impl.MaxRow-1)*28284271 {
		t.Error(got)
	}
}

func TestLengthIsTheSumFromBothSides(t *testing.T) {
	tell := numbers(3)
	for count := range 60 {
		row := someRow(tell, count, int64(impl.MaxCoord)>>tell.Intn(22))
		sum := int64(0)
		for i := 0; i+1 < count; i++ {
			sum += impl.Distance(row[i], row[i+1])
		}
		back := slices.Clone(row)
		slices.Reverse(back)
		if there, again := impl.Length(row), impl.Length(back); there != sum || again != sum {
			t.Error(count, there, again, sum)
		}
	}
}
