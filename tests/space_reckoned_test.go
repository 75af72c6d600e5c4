package tests

import (
	"slices"
	"strconv"
	"strings"

	"loop.example/g00024/impl"
)

// Chapter 5 reckoned once more from its words: a code is a text of 50 digits of base 2, a cell one of digits of base 4.

const codeBits = 25

const firstCoord = -16777216

// digitsOf is a coordinate's 25 bits, the highest ahead.
func digitsOf(n int64) string {
	text := strconv.FormatInt(n-firstCoord, 2)
	return strings.Repeat("0", codeBits-len(text)) + text
}

// mixed is the number of which the digits are those of y and of x by turns.
func mixed(p impl.Point) uint64 {
	x, y := digitsOf(p.X), digitsOf(p.Y)
	var text strings.Builder
	for i := range codeBits {
		text.WriteByte(y[i])
		text.WriteByte(x[i])
	}
	code, err := strconv.ParseUint(text.String(), 2, 64)
	if err != nil {
		panic(err)
	}
	return code
}

// quarters is a cell as the way down to it: a digit 0 to 3 a level.
type quarters string

func (q quarters) cell() impl.Cell {
	code := uint64(0)
	for _, digit := range q {
		code = code*4 + uint64(digit-'0')
	}
	return cell(code, int64(len(q)))
}

func quartersOf(c impl.Cell) quarters {
	if c.Level == 0 {
		return ""
	}
	text := strconv.FormatUint(c.Code, 4)
	return quarters(strings.Repeat("0", int(c.Level)-len(text)) + text)
}

// box goes down by halves: the odd quarters lie to the east, 2 and 3 to the north.
func (q quarters) box() impl.Box {
	b := box(firstCoord, firstCoord, -firstCoord-1, -firstCoord-1)
	for _, digit := range q {
		half := (b.High.X - b.Low.X + 1) / 2
		if digit == '1' || digit == '3' {
			b.Low.X += half
		}
		if digit == '2' || digit == '3' {
			b.Low.Y += half
		}
		b.High = at(b.Low.X+half-1, b.Low.Y+half-1)
	}
	return b
}

// apart tells whether two spans, with their ends, have nothing in common.
func apart(low int64, high int64, from int64, to int64) bool { return high < from || to < low }

func (q quarters) meets(b impl.Box) bool {
	own := q.box()
	return !apart(own.Low.X, own.High.X, b.Low.X, b.High.X) && !apart(own.Low.Y, own.High.Y, b.Low.Y, b.High.Y)
}

func (q quarters) liesIn(b impl.Box) bool {
	own := q.box()
	return own.Low.X >= b.Low.X && own.Low.Y >= b.Low.Y && own.High.X <= b.High.X && own.High.Y <= b.High.Y
}

// coverOf goes by the words, over the whole list each time; texts of which none begins another stand as their codes do.
func coverOf(b impl.Box, most int64) []impl.Cell {
	if !canBe(b.Low) || !canBe(b.High) || b.Low.X > b.High.X || b.Low.Y > b.High.Y || most < 4 || most > 200 {
		return nil
	}
	list := []quarters{""}
	for int64(len(list)) < most-2 {
		slices.Sort(list)
		at := -1
		for i, q := range list {
			if !q.liesIn(b) && len(q) < codeBits && (at < 0 || len(q) < len(list[at])) {
				at = i
			}
		}
		if at < 0 {
			break
		}
		gone := list[at]
		list = slices.Delete(list, at, at+1)
		for _, digit := range []quarters{"0", "1", "2", "3"} {
			if part := gone + digit; part.meets(b) {
				list = append(list, part)
			}
		}
	}
	slices.Sort(list)
	var cells []impl.Cell
	for _, q := range list {
		cells = append(cells, q.cell())
	}
	return cells
}

// sortedOf puts each number behind all whose code is no greater, one after the other.
func sortedOf(ps []impl.Point) []int64 {
	if !rowCanBe(ps) {
		return nil
	}
	var codes []uint64
	var order []int64
	for i, p := range ps {
		codes = append(codes, mixed(p))
		at := 0
		for at < len(order) && codes[order[at]] <= codes[i] {
			at++
		}
		order = slices.Insert(order, at, int64(i))
	}
	return order
}

func inBoxOf(ps []impl.Point, b impl.Box) []int64 {
	var inside []int64
	for _, i := range sortedOf(ps) {
		p := ps[i]
		if p.X >= b.Low.X && p.X <= b.High.X && p.Y >= b.Low.Y && p.Y <= b.High.Y {
			inside = append(inside, i)
		}
	}
	return inside
}

// nearestOf takes, as often as is asked, the first of those that are left and nearest.
func nearestOf(ps []impl.Point, p impl.Point, n int64) []int64 {
	if !rowCanBe(ps) || !canBe(p) {
		return nil
	}
	taken := map[int64]bool{}
	var near []int64
	for int64(len(near)) < min(n, int64(len(ps))) {
		best, square := int64(-1), int64(0)
		for i, q := range ps {
			far := (q.X-p.X)*(q.X-p.X) + (q.Y-p.Y)*(q.Y-p.Y)
			if !taken[int64(i)] && (best < 0 || far < square) {
				best, square = int64(i), far
			}
		}
		taken[best] = true
		near = append(near, best)
	}
	return near
}
