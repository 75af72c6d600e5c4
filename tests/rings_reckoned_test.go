package tests

import (
	"math/big"
	"slices"

	"loop.example/g00024/impl"
)

// Chapter 4 reckoned from its words by other means than the program's: ends are looked for one by one, heights are fractions.

func ringsOf(m impl.Map, area int64) impl.Rings {
	a := areaWith(m, area)
	if !mapCanBe(m) || a == nil {
		return impl.Rings{Fault: 1}
	}
	left := slices.Clone(a.Parts)
	var answer impl.Rings
	for len(left) > 0 {
		first := left[0]
		row := rowOf(m, first.Way)
		left = left[1:]
		for row[0] != row[len(row)-1] && len(row) <= 2000 {
			i := slices.IndexFunc(left, func(p impl.Part) bool {
				next := rowOf(m, p.Way)
				return p.Inner == first.Inner && slices.Contains([]impl.Point{next[0], next[len(next)-1]}, row[len(row)-1])
			})
			if i < 0 {
				break
			}
			next := rowOf(m, left[i].Way)
			if next[0] != row[len(row)-1] {
				next = turned(next)
			}
			row = slices.Concat(row, next[1:])
			left = slices.Delete(left, i, i+1)
		}
		if row[0] != row[len(row)-1] {
			return impl.Rings{Fault: 2, Way: first.Way}
		}
		if len(row) < 4 || len(row) > 2000 || meetsItself(row) {
			return impl.Rings{Fault: 3, Way: first.Way}
		}
		answer.Rings = append(answer.Rings, impl.Ring{Row: row, Inner: first.Inner})
	}
	return answer
}

// meetsItself asks each stretch against each other.
func meetsItself(row []impl.Point) bool {
	n := len(row) - 1
	for i := range n {
		a, b := row[i], row[i+1]
		if a == b {
			return true
		}
		for k := range n {
			c, d := row[k], row[k+1]
			switch k {
			case i:
			case (i + 1) % n:
				if onStretch(a, b, d) || onStretch(c, d, a) {
					return true
				}
			case (i + n - 1) % n:
				if onStretch(a, b, c) || onStretch(c, d, b) {
					return true
				}
			default:
				if meets(a, b, c, d) {
					return true
				}
			}
		}
	}
	return false
}

// areaOf sums what lies between each stretch and the y axis, which comes to the same for a closed row.
func areaOf(row []impl.Point) *big.Int {
	sum := number(0)
	for i := 1; i < len(row); i++ {
		wide := number(row[i-1].X + row[i].X)
		sum.Add(sum, wide.Mul(wide, number(row[i].Y-row[i-1].Y)))
	}
	return sum
}

func rowsCanBe(rs []impl.Ring) bool {
	for _, r := range rs {
		if !rowCanBe(r.Row) {
			return false
		}
	}
	return len(rs) <= 40
}

func rowCanBe(row []impl.Point) bool {
	return len(row) <= 2000 && !slices.ContainsFunc(row, func(p impl.Point) bool { return !canBe(p) })
}

func canBe(p impl.Point) bool {
	return -10000000 <= p.X && p.X <= 10000000 && -10000000 <= p.Y && p.Y <= 10000000
}

func insideOf(rs []impl.Ring, p impl.Point) int64 {
	if !rowsCanBe(rs) || !canBe(p) {
		return -1
	}
	odd := int64(-1)
	for _, r := range rs {
		for i := 1; i < len(r.Row); i++ {
			a, b := r.Row[i-1], r.Row[i]
			if onStretch(a, b, p) {
				return 0
			}
			if a.Y <= p.Y && b.Y > p.Y || b.Y <= p.Y && a.Y > p.Y {
				// a.X and as much of the way to b.X as p's height is of the way to b.Y
				x := big.NewRat(p.Y-a.Y, b.Y-a.Y)
				x.Mul(x, big.NewRat(b.X-a.X, 1))
				x.Add(x, big.NewRat(a.X, 1))
				if x.Cmp(big.NewRat(p.X, 1)) > 0 {
					odd = -odd
				}
			}
		}
	}
	return odd
}

func orientOf(rs []impl.Ring) []impl.Ring {
	if !rowsCanBe(rs) {
		return nil
	}
	var oriented []impl.Ring
	for _, r := range rs {
		sum := int64(0)
		for i := 1; i < len(r.Row); i++ {
			sum += r.Row[i-1].X*r.Row[i].Y - r.Row[i-1].Y*r.Row[i].X
		}
		if r.Inner {
			sum = -sum
		}
		row := r.Row
		if sum < 0 {
			row = turned(row)
		}
		oriented = append(oriented, impl.Ring{Row: row, Inner: r.Inner})
	}
	return oriented
}

func nestingOf(rs []impl.Ring) []int64 {
	if !rowsCanBe(rs) {
		return nil
	}
	depths := make([]int64, len(rs))
	for i, r := range rs {
		for k, other := range rs {
			if k != i && len(r.Row) > 0 && insideOf([]impl.Ring{other}, r.Row[0]) == 1 {
				depths[i]++
			}
		}
	}
	return depths
}
