package tests

import (
	"math"
	"testing"

	"loop.example/g00024/impl"
)

// Promise 5: codes are points and points codes.

// middle is the code of the origin: the highest bit of each coordinate.
const middle = 3 << 48

func checkCode(t *testing.T, p impl.Point, want uint64) {
	t.Helper()
	if got := impl.CodeOf(p); got != want {
		t.Errorf("%v has code %#x, not %#x", p, got, want)
	}
	back, ok := impl.PointOf(want)
	if canBe(p) && (!ok || back != p) {
		t.Errorf("code %#x is %v %v, not %v", want, back, ok, p)
	}
}

func checkNoPoint(t *testing.T, code uint64) {
	t.Helper()
	if p, ok := impl.PointOf(code); ok || p != at(0, 0) {
		t.Errorf("code %#x is %v %v", code, p, ok)
	}
}

func TestCodeOf(t *testing.T) {
	checkCode(t, at(0, 0), middle)
	checkCode(t, at(1, 0), middle+1)
	checkCode(t, at(0, 1), middle+2)
	checkCode(t, at(3, 0), middle+5)
	checkCode(t, at(0, 3), middle+10)
	checkCode(t, at(2, 1), middle+6)
	// Below the origin all bits but the highest are set.
	checkCode(t, at(-1, 0), 0x3ffffffffffff-1<<48-0xaaaaaaaaaaaa)
	checkCode(t, at(0, -1), 0x3ffffffffffff-2<<48-0x555555555555)
	checkCode(t, at(-1, -1), 0xffffffffffff)
}

func TestEachBitHasItsPlace(t *testing.T) {
	for k := range 24 {
		n := int64(1) << k
		checkCode(t, at(n, 0), middle+1<<(2*k))
		checkCode(t, at(0, n), middle+1<<(2*k+1))
		checkCode(t, at(n, n), middle+3<<(2*k))
	}
	// The bits below that of the origin one by one, above the least of two: -8388608 is bit 23 alone.
	for k := range 23 {
		n := int64(1) << k
		checkCode(t, at(n-8388608, -8388608), 3<<46+1<<(2*k))
		checkCode(t, at(-8388608, n-8388608), 3<<46+1<<(2*k+1))
	}
	checkCode(t, at(-8388608, 0), 1<<46+2<<48)
	checkCode(t, at(0, -8388608), 2<<46+1<<48)
}

func TestCodesAtTheEdges(t *testing.T) {
	const m = impl.MaxCoord
	for _, x := range []int64{-m, -m + 1, -1, 0, 1, m - 1, m} {
		for _, y := range []int64{-m, -m + 1, -1, 0, 1, m - 1, m} {
			checkCode(t, at(x, y), mixed(at(x, y)))
		}
	}
	for _, p := range outside() {
		checkCode(t, p, 0)
	}
	for _, p := range path(-m-1, 5, m+1, 5, 5, -m-1, 5, m+1, m+1, m+1, -m-1, -m-1, m+1, -m-1) {
		checkCode(t, p, 0)
		checkNoPoint(t, mixed(p))
	}
}

func TestCodesWithoutAPoint(t *testing.T) {
	for _, code := range []uint64{0, 1, 2, 3, 1<<50 - 1, 1 << 50, 1<<50 + 1, math.MaxUint64, math.MaxUint64 - 1, 1 << 63, 1 << 24, 1 << 48, 2 << 48} {
		checkNoPoint(t, code)
	}
	// A bit above the fifty is never passed over.
	for k := 50; k < 64; k++ {
		checkNoPoint(t, middle+1<<k)
		checkNoPoint(t, middle+5+3<<k)
	}
	// One coordinate alone can't be.
	for _, p := range path(0, firstCoord, firstCoord, 0, 0, -firstCoord-1, -firstCoord-1, 0, firstCoord, firstCoord, -firstCoord-1, -firstCoord-1) {
		checkNoPoint(t, mixed(p))
	}
}

func TestPointsAreCodesAndCodesPoints(t *testing.T) {
	tell := numbers(51)
	for i := range 100000 {
		p := somewhere(tell, []int64{3, 1000, impl.MaxCoord}[i%3])
		checkCode(t, p, mixed(p))
	}
	none := 0
	for range 100000 {
		code := tell.Uint64() >> (14 + tell.Intn(3))
		p, ok := impl.PointOf(code)
		if !ok {
			none++
			p = quartersOf(cell(code, 25)).box().Low
			if canBe(p) {
				t.Fatalf("code %#x has %v", code, p)
			}
			checkNoPoint(t, code)
			continue
		}
		checkCode(t, p, code)
		if !canBe(p) || mixed(p) != code {
			t.Fatalf("code %#x is not %v", code, p)
		}
	}
	if none < 1000 || none > 99000 {
		t.Error("too few of a kind:", none)
	}
}

func checkBox(t *testing.T, c impl.Cell, want impl.Box) {
	t.Helper()
	if got := impl.CellBox(c); got != want {
		t.Error(c, "has", got, "and not", want)
	}
}

func TestCellBox(t *testing.T) {
	const low, high = -16777216, 16777215
	checkBox(t, cell(0, 0), box(low, low, high, high))
	checkBox(t, cell(0, 1), box(low, low, -1, -1))
	checkBox(t, cell(1, 1), box(0, low, high, -1))
	checkBox(t, cell(2, 1), box(low, 0, -1, high))
	checkBox(t, cell(3, 1), box(0, 0, high, high))
	checkBox(t, cell(12, 2), box(0, 0, 8388607, 8388607))
	checkBox(t, cell(middle>>2, 24), box(0, 0, 1, 1))
	checkBox(t, cell(middle, 25), box(0, 0, 0, 0))
	checkBox(t, cell(middle+7, 25), box(3, 1, 3, 1))
	checkBox(t, cell(0, 25), box(low, low, low, low))
	checkBox(t, cell(1<<50-1, 25), box(high, high, high, high))
}

func TestCellsAtTheirLimits(t *testing.T) {
	for level := range int64(26) {
		size := int64(1) << (25 - level)
		checkBox(t, cell(0, level), box(firstCoord, firstCoord, firstCoord+size-1, firstCoord+size-1))
		limit := uint64(1) << (2 * level)
		checkBox(t, cell(limit-1, level), box(-firstCoord-size, -firstCoord-size, -firstCoord-1, -firstCoord-1))
		for _, code := range []uint64{limit, limit + 1, 2 * limit, 1 << 63, math.MaxUint64} {
			checkBox(t, cell(code, level), impl.Box{})
		}
	}
	for _, level := range []int64{-1, -2, 26, 27, 32, 64, -25, -64, math.MinInt64, math.MaxInt64} {
		for _, code := range []uint64{0, 1, 3, middle, 1<<52 - 1, math.MaxUint64} {
			checkBox(t, cell(code, level), impl.Box{})
		}
	}
}

// A cell's codes are those between its first and its last, and just the points of its box have them.
func TestCellsHaveTheirCodes(t *testing.T) {
	tell := numbers(52)
	for range 20000 {
		level := tell.Int63n(26)
		c := cell(tell.Uint64()>>14>>(50-2*level), level)
		b := quartersOf(c).box()
		checkBox(t, c, b)
		wide := b.High.X - b.Low.X + 1
		beside := at(b.Low.X+tell.Int63n(3*wide)-wide, b.Low.Y+tell.Int63n(3*wide)-wide)
		for _, p := range append(corners(b), at(b.Low.X-1, b.Low.Y), at(b.High.X+1, b.High.Y), at(b.Low.X, b.Low.Y-1), at(b.High.X, b.High.Y+1), beside) {
			in := p.X >= b.Low.X && p.X <= b.High.X && p.Y >= b.Low.Y && p.Y <= b.High.Y
			if code := impl.CodeOf(p); canBe(p) && (code>>(50-2*level) == c.Code) != in {
				t.Fatal(c, b, p, code)
			}
		}
	}
}
