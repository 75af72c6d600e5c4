package impl

import "math/bits"

const MaxCoord = 10000000
const MaxRow = 2000

type Point struct {
	X int64
	Y int64
}

type Foot struct {
	Leg   int64
	At    int64
	Point Point
	Far   int64
}

type Box struct {
	Low  Point
	High Point
}

// windOf has the winds by the signs of the differences, 1 added so that they can count: that of Y first, then that of X.
var windOf = [3][3]int64{{5, 6, 7}, {4, -1, 0}, {3, 2, 1}}

func PointOk(p Point) bool {
	return coordOk(p.X) && coordOk(p.Y)
}

func coordOk(n int64) bool {
	return -MaxCoord <= n && n <= MaxCoord
}

func rowOk(row []Point) bool {
	if len(row) > MaxRow {
		return false
	}
	for _, p := range row {
		if !PointOk(p) {
			return false
		}
	}
	return true
}

func Root(n int64) int64 {
	if n < 0 {
		return -1
	}
	if n == 0 {
		return 0
	}
	// From above the steps only fall, so the first that does not has passed the root.
	root := int64(1) << ((bits.Len64(uint64(n)) + 1) / 2)
	for {
		next := (root + n/root) / 2
		if next >= root {
			break
		}
		root = next
	}
	return root
}

func Distance(a Point, b Point) int64 {
	if !PointOk(a) || !PointOk(b) {
		return -1
	}
	u := minus(b, a)
	// Twice the distance, rounded down, tells on which side of a half it lies.
	return (Root(4*dot(u, u)) + 1) / 2
}

func Length(row []Point) int64 {
	if !rowOk(row) {
		return -1
	}
	sum := int64(0)
	for i := 1; i < len(row); i++ {
		sum += Distance(row[i-1], row[i])
	}
	return sum
}

func Turn(a Point, b Point, c Point) int64 {
	if !PointOk(a) || !PointOk(b) || !PointOk(c) {
		return 2
	}
	u, v := minus(b, a), minus(c, b)
	return sign(u.X*v.Y - u.Y*v.X)
}

func Heading(a Point, b Point) int64 {
	if !PointOk(a) || !PointOk(b) || a == b {
		return -1
	}
	u := minus(b, a)
	wide, high := abs(u.X), abs(u.Y)
	if 5*min(wide, high) < 2*max(wide, high) {
		if wide > high {
			u.Y = 0
		} else {
			u.X = 0
		}
	}
	return windOf[sign(u.Y)+1][sign(u.X)+1]
}

func Cross(a Point, b Point, c Point, d Point) bool {
	if !PointOk(a) || !PointOk(b) || !PointOk(c) || !PointOk(d) {
		return false
	}
	// The boxes decide where all four lie on one line: there the turns say nothing.
	return boxesMeet(boxOf(a, b), boxOf(c, d)) &&
		Turn(a, b, c)*Turn(a, b, d) <= 0 &&
		Turn(c, d, a)*Turn(c, d, b) <= 0
}

func Near(row []Point, p Point) Foot {
	if !rowOk(row) || len(row) == 0 || !PointOk(p) {
		return Foot{Leg: -1}
	}
	// A row of one point is a stretch from it to itself.
	best := footOn(row[0], row[min(1, len(row)-1)], p)
	for i := 2; i < len(row); i++ {
		foot := footOn(row[i-1], row[i], p)
		if foot.Far < best.Far {
			best = foot
			best.Leg = int64(i - 1)
		}
	}
	return best
}

func Simplify(row []Point, most int64) []Point {
	if !rowOk(row) || len(row) == 0 || most < 0 {
		return nil
	}
	return append(keepFar(nil, row, most), row[len(row)-1])
}

func Bounds(row []Point) Box {
	if !rowOk(row) || len(row) == 0 {
		return Box{}
	}
	box := boxOf(row[0], row[0])
	for _, p := range row {
		box.Low = Point{X: min(box.Low.X, p.X), Y: min(box.Low.Y, p.Y)}
		box.High = Point{X: max(box.High.X, p.X), Y: max(box.High.Y, p.Y)}
	}
	return box
}

// keepFar adds what stays of a row, but for its last point: that one begins the next half, which tells it.
func keepFar(kept []Point, row []Point, most int64) []Point {
	if len(row) < 2 {
		return kept
	}
	at, far := farthest(row)
	if far <= most {
		return append(kept, row[0])
	}
	kept = keepFar(kept, row[:at+1], most)
	return keepFar(kept, row[at:], most)
}

// farthest tells -1 as the distance when no point stands between, which is above no most.
func farthest(row []Point) (int, int64) {
	last := len(row) - 1
	at, far := 0, int64(-1)
	for i := 1; i < last; i++ {
		here := Distance(row[i], nearestOn(row[0], row[last], row[i]))
		if here > far {
			at, far = i, here
		}
	}
	return at, far
}

func footOn(a Point, b Point, p Point) Foot {
	q := nearestOn(a, b, p)
	return Foot{At: Distance(a, q), Point: q, Far: Distance(p, q)}
}

func nearestOn(a Point, b Point, p Point) Point {
	u, v := minus(b, a), minus(p, a)
	along, whole := dot(u, v), dot(u, u)
	if along <= 0 || a == b {
		return a
	}
	if along >= whole {
		return b
	}
	return Point{X: a.X + share(u.X, along, whole), Y: a.Y + share(u.Y, along, whole)}
}

// share is n times part / whole, rounded down, for 0 <= part <= whole and 0 < whole.
func share(n int64, part int64, whole int64) int64 {
	size, rest := product(uint64(abs(n)), uint64(part)).over(uint64(whole))
	if n >= 0 {
		return int64(size)
	}
	if rest > 0 {
		size++
	}
	return -int64(size)
}

// doubleWord holds what one word can't: a coordinate times a product of two others.
type doubleWord struct {
	high uint64
	low  uint64
}

func product(a uint64, b uint64) doubleWord {
	const half = 32
	const lower = 1<<half - 1
	low := (a & lower) * (b & lower)
	// Neither sum can pass a word: a product of halves leaves room for one half more.
	first := (a>>half)*(b&lower) + low>>half
	second := (a&lower)*(b>>half) + first&lower
	return doubleWord{
		high: (a>>half)*(b>>half) + first>>half + second>>half,
		low:  second<<half | low&lower,
	}
}

// over divides, and tells the rest; by must be above high, so that one word has the quotient.
func (d doubleWord) over(by uint64) (uint64, uint64) {
	for range 64 {
		carry := d.high >> 63
		d.high = d.high<<1 | d.low>>63
		d.low <<= 1
		if carry == 1 || d.high >= by {
			d.high -= by
			d.low |= 1
		}
	}
	return d.low, d.high
}

func boxOf(a Point, b Point) Box {
	return Box{
		Low:  Point{X: min(a.X, b.X), Y: min(a.Y, b.Y)},
		High: Point{X: max(a.X, b.X), Y: max(a.Y, b.Y)},
	}
}

func boxesMeet(a Box, b Box) bool {
	return a.Low.X <= b.High.X && b.Low.X <= a.High.X &&
		a.Low.Y <= b.High.Y && b.Low.Y <= a.High.Y
}

func minus(a Point, b Point) Point {
	return Point{X: a.X - b.X, Y: a.Y - b.Y}
}

func dot(a Point, b Point) int64 {
	return a.X*b.X + a.Y*b.Y
}

func abs(n int64) int64 {
	return max(n, -n)
}

func sign(n int64) int64 {
	switch {
	case n > 0:
		return 1
	case n < 0:
		return -1
	}
	return 0
}
