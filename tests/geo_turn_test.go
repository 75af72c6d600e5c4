package tests

import (
	"testing"

	"loop.example/g00024/impl"
)

// Promise 1, of turns, winds and crossings.

func checkTurn(t *testing.T, a impl.Point, b impl.Point, c impl.Point, want int64) {
	t.Helper()
	if got := impl.Turn(a, b, c); got != want {
		t.Errorf("Turn(%v, %v, %v) = %d, want %d", a, b, c, got, want)
	}
	if got := impl.Turn(c, b, a); got != -want {
		t.Errorf("Turn(%v, %v, %v) = %d, want %d: from the other side", c, b, a, got, -want)
	}
}

func TestTurn(t *testing.T) {
	const m = impl.MaxCoord
	for _, c := range []struct {
		a, b, c impl.Point
		want    int64
	}{
		{at(0, 0), at(2, 0), at(2, 1), 1},
		{at(0, 0), at(2, 0), at(2, -1), -1},
		{at(0, 0), at(2, 0), at(5, 0), 0},
		{at(0, 0), at(2, 0), at(1, 0), 0},
		{at(0, 0), at(2, 0), at(0, 0), 0},
		{at(0, 0), at(2, 0), at(-7, 0), 0},
		{at(4, 4), at(4, 4), at(9, 1), 0},
		{at(4, 4), at(9, 1), at(9, 1), 0},
		{at(4, 4), at(4, 4), at(4, 4), 0},
		{at(0, 0), at(0, 5), at(-1, 0), 1},
		{at(0, 0), at(0, 5), at(1, 0), -1},
		{at(-m, -m), at(m, m), at(m, m-1), -1},
		{at(-m, -m), at(m, m), at(m-1, m), 1},
		{at(-m, -m), at(m-1, m), at(m, m), -1},
		{at(-m, -m), at(0, 0), at(m, m), 0},
		{at(-m, -m), at(m, -m), at(m, m), 1},
		{at(-m, m), at(m, m), at(m, -m), -1},
		{at(-m, -m), at(0, 1), at(m, m), -1},
		{at(-m, -m), at(1, 0), at(m, m), 1},
	} {
		checkTurn(t, c.a, c.b, c.c, c.want)
	}
}

// areaSign is the sign of the area of a b c by the sum over its three sides, in numbers without end.
func areaSign(a impl.Point, b impl.Point, c impl.Point) int64 {
	sum := number(0)
	for _, s := range [][2]impl.Point{{a, b}, {b, c}, {c, a}} {
		there := number(s[0].X)
		back := number(s[0].Y)
		sum.Add(sum, there.Mul(there, number(s[1].Y)))
		sum.Sub(sum, back.Mul(back, number(s[1].X)))
	}
	return int64(sum.Sign())
}

func TestTurnIsTheSideOfTheArea(t *testing.T) {
	tell := numbers(4)
	for range 30000 {
		most := int64(impl.MaxCoord) >> tell.Intn(24)
		a, b, c := somewhere(tell, most), somewhere(tell, most), somewhere(tell, most)
		checkTurn(t, a, b, c, areaSign(a, b, c))
	}
	for range 5000 {
		a, u := somewhere(tell, 1000), somewhere(tell, 4000)
		k, n := within(tell, 1000), within(tell, 1000)
		checkTurn(t, a, at(a.X+k*u.X, a.Y+k*u.Y), at(a.X+n*u.X, a.Y+n*u.Y), 0)
	}
}

func TestTurnOfWhatCannotBe(t *testing.T) {
	spoiled([]impl.Point{at(0, 0), at(2, 0), at(2, 1)}, func(ps []impl.Point) {
		if got := impl.Turn(ps[0], ps[1], ps[2]); got != 2 {
			t.Error(ps, got)
		}
	})
}

// checkWinds asks for the wind of dx, dy and for all that turning and looking back make of it.
func checkWinds(t *testing.T, a impl.Point, dx int64, dy int64, want int64) {
	t.Helper()
	for range 4 {
		b := at(a.X+dx, a.Y+dy)
		if got := impl.Heading(a, b); got != want {
			t.Errorf("Heading(%v, %v) = %d, want %d", a, b, got, want)
		}
		if got := impl.Heading(b, a); got != (want+4)%8 {
			t.Errorf("Heading(%v, %v) = %d, want %d: from the other side", b, a, got, (want+4)%8)
		}
		dx, dy, want = -dy, dx, (want+2)%8
	}
}

func TestHeading(t *testing.T) {
	for _, c := range []struct{ dx, dy, want int64 }{
		{1, 0, 0},
		{1, 1, 1},
		{2, 1, 1},
		{1, 2, 1},
		{3, 1, 0},
		{1, 3, 2},
		{3, -1, 0},
		{2, -1, 7},
		{5, 2, 1},
		{5, -2, 7},
		{2, 5, 1},
		{-2, 5, 3},
		{5, 1, 0},
		{1, 5, 2},
		{10, 3, 0},
		{10, 4, 1},
		{500, 199, 0},
		{500, 200, 1},
		{501, 200, 0},
		{199, 500, 2},
		{200, 500, 1},
		{200, 501, 2},
		{-199, 500, 2},
		{-200, 500, 3},
		{500, -199, 0},
		{500, -200, 7},
	} {
		checkWinds(t, at(0, 0), c.dx, c.dy, c.want)
		checkWinds(t, at(-1234, 987), c.dx, c.dy, c.want)
	}
}

func TestHeadingOverTheWholePlane(t *testing.T) {
	const m = impl.MaxCoord
	for _, c := range []struct {
		a, b impl.Point
		want int64
	}{
		{at(-m, -m), at(m, -m), 0},
		{at(-m, -m), at(m, m), 1},
		{at(-m, -m), at(-m, m), 2},
		{at(m, -m), at(-m, m), 3},
		{at(-m, -m), at(m, -m+8000000), 1},
		{at(-m, -m), at(m, -m+7999999), 0},
		{at(-m, -m), at(-m+8000000, m), 1},
		{at(-m, -m), at(-m+7999999, m), 2},
	} {
		if got, back := impl.Heading(c.a, c.b), impl.Heading(c.b, c.a); got != c.want || back != (c.want+4)%8 {
			t.Error(c, got, back)
		}
	}
}

// windByWords says the wind one rule after the other, as the document does.
func windByWords(dx int64, dy int64) int64 {
	wide, high := max(dx, -dx), max(dy, -dy)
	switch straight := 5*min(wide, high) < 2*max(wide, high); {
	case straight && wide > high && dx > 0:
		return 0
	case straight && wide > high:
		return 4
	case straight && dy > 0:
		return 2
	case straight:
		return 6
	case dx > 0 && dy > 0:
		return 1
	case dx < 0 && dy > 0:
		return 3
	case dx < 0:
		return 5
	}
	return 7
}

func TestHeadingNearAndFar(t *testing.T) {
	for dx := int64(-30); dx <= 30; dx++ {
		for dy := int64(-30); dy <= 30; dy++ {
			if dx != 0 || dy != 0 {
				checkWinds(t, at(7, -5), dx, dy, windByWords(dx, dy))
			}
		}
	}
	tell := numbers(5)
	for range 20000 {
		u := somewhere(tell, int64(impl.MaxCoord/2)>>tell.Intn(20))
		if u == at(0, 0) {
			continue
		}
		checkWinds(t, somewhere(tell, impl.MaxCoord/2), u.X, u.Y, windByWords(u.X, u.Y))
	}
}

func TestHeadingOfWhatHasNone(t *testing.T) {
	for _, p := range []impl.Point{at(0, 0), at(4, -9), at(impl.MaxCoord, -impl.MaxCoord)} {
		if got := impl.Heading(p, p); got != -1 {
			t.Error(p, got)
		}
	}
	spoiled([]impl.Point{at(0, 0), at(2, 0)}, func(ps []impl.Point) {
		if got := impl.Heading(ps[0], ps[1]); got != -1 {
			t.Error(ps, got)
		}
	})
}

// checkCross asks in all eight orders of the ends and the stretches.
func checkCross(t *testing.T, a impl.Point, b impl.Point, c impl.Point, d impl.Point, want bool) {
	t.Helper()
	for _, s := range [][4]impl.Point{
		{a, b, c, d}, {b, a, c, d}, {a, b, d, c}, {b, a, d, c},
		{c, d, a, b}, {d, c, a, b}, {c, d, b, a}, {d, c, b, a},
	} {
		if got := impl.Cross(s[0], s[1], s[2], s[3]); got != want {
			t.Errorf("Cross(%v, %v, %v, %v) = %v", s[0], s[1], s[2], s[3], got)
		}
	}
}

func TestCross(t *testing.T) {
	const m = impl.MaxCoord
	for _, c := range []struct {
		a, b, c, d impl.Point
		want       bool
	}{
		{at(0, 0), at(4, 4), at(0, 4), at(4, 0), true},
		{at(0, 0), at(4, 4), at(0, 4), at(1, 3), false},
		{at(0, 0), at(4, 0), at(2, 0), at(2, 3), true},
		{at(0, 0), at(4, 0), at(2, 1), at(2, 3), false},
		{at(0, 0), at(2, 2), at(2, 2), at(3, 0), true},
		{at(0, 0), at(2, 2), at(2, 3), at(3, 0), false},
		{at(0, 0), at(2, 2), at(1, 3), at(3, 0), true},
		{at(0, 0), at(2, 2), at(3, 2), at(3, 0), false},
		{at(0, 0), at(1, 1), at(2, 2), at(3, 3), false},
		{at(0, 0), at(2, 2), at(2, 2), at(3, 3), true},
		{at(0, 0), at(2, 2), at(1, 1), at(3, 3), true},
		{at(0, 0), at(9, 9), at(1, 1), at(3, 3), true},
		{at(0, 0), at(9, 9), at(0, 0), at(9, 9), true},
		{at(0, 0), at(9, 0), at(0, 1), at(9, 1), false},
		{at(0, 0), at(9, 9), at(0, 1), at(8, 9), false},
		{at(3, 0), at(3, 5), at(3, 6), at(3, 9), false},
		{at(3, 0), at(3, 5), at(3, 5), at(3, 9), true},
		{at(5, 5), at(5, 5), at(5, 5), at(5, 5), true},
		{at(5, 5), at(5, 5), at(5, 6), at(5, 6), false},
		{at(5, 5), at(5, 5), at(0, 0), at(9, 9), true},
		{at(5, 5), at(5, 5), at(0, 0), at(5, 5), true},
		{at(5, 6), at(5, 6), at(0, 0), at(9, 9), false},
		{at(10, 10), at(10, 10), at(0, 0), at(9, 9), false},
		{at(-m, -m), at(m, m), at(-m, m), at(m, -m), true},
		{at(-m, -m), at(m, m), at(-m, m), at(0, 1), false},
		{at(-m, -m), at(m, m), at(-m, m), at(0, 0), true},
		{at(-m, -m), at(m, m-1), at(m, m), at(-1, 0), false},
		{at(-m, -m), at(m, m-1), at(m, m), at(0, -1), true},
		{at(-m, -m), at(-m, m), at(m, -m), at(m, m), false},
	} {
		checkCross(t, c.a, c.b, c.c, c.d, c.want)
	}
}

func product(a impl.Point, b impl.Point) int64 { return a.X*b.Y - a.Y*b.X }

func step(a impl.Point, b impl.Point) impl.Point { return at(b.X-a.X, b.Y-a.Y) }

func onStretch(a impl.Point, b impl.Point, p impl.Point) bool {
	u, v := step(a, b), step(a, p)
	along := u.X*v.X + u.Y*v.Y
	if u == at(0, 0) {
		return v == u
	}
	return product(u, v) == 0 && 0 <= along && along <= u.X*u.X+u.Y*u.Y
}

// meets solves a + s u = c + t v, where it can be solved; otherwise an end must lie on the other stretch.
func meets(a impl.Point, b impl.Point, c impl.Point, d impl.Point) bool {
	u, v, w := step(a, b), step(c, d), step(a, c)
	whole := product(u, v)
	if whole == 0 {
		return onStretch(a, b, c) || onStretch(a, b, d) || onStretch(c, d, a) || onStretch(c, d, b)
	}
	s, t := product(w, v), product(w, u)
	if whole < 0 {
		whole, s, t = -whole, -s, -t
	}
	return 0 <= s && s <= whole && 0 <= t && t <= whole
}

func TestCrossIsAPointInCommon(t *testing.T) {
	tell := numbers(6)
	met := 0
	for range 60000 {
		most := int64(impl.MaxCoord) >> tell.Intn(24)
		ps := someRow(tell, 4, most)
		want := meets(ps[0], ps[1], ps[2], ps[3])
		checkCross(t, ps[0], ps[1], ps[2], ps[3], want)
		if want {
			met++
		}
	}
	if met < 1000 || met > 59000 {
		t.Error("too few of one kind:", met)
	}
}

func TestCrossOnASmallGrid(t *testing.T) {
	var grid []impl.Point
	for x := range int64(4) {
		for y := range int64(3) {
			grid = append(grid, at(x, y))
		}
	}
	for _, a := range grid {
		for _, b := range grid {
			for _, c := range grid {
				for _, d := range grid {
					checkCross(t, a, b, c, d, meets(a, b, c, d))
				}
			}
		}
	}
}

func TestCrossOfWhatCannotBe(t *testing.T) {
	spoiled([]impl.Point{at(0, 0), at(4, 4), at(0, 4), at(4, 0)}, func(ps []impl.Point) {
		if impl.Cross(ps[0], ps[1], ps[2], ps[3]) {
			t.Error(ps)
		}
	})
}
