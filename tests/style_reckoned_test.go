package tests

import (
	"math"
	"regexp"
	"slices"
	"strconv"
	"strings"

	"loop.example/g00024/impl"
)

// Chapter 7 reckoned once more from its words: lines are held against a pattern, rules are gone through from the first,
// layers one by one, places as fractions.

const (
	wordForm   = `[a-z0-9:_]{1,40}`
	numberForm = `[0-9]{1,10}`
	testForm   = `(?:` + wordForm + `!?=[!-~]*|!?` + wordForm + `)`
)

var (
	lineForm = regexp.MustCompile(`\A *zoom +(` + numberForm + `)-(` + numberForm + `)((?: +` + testForm + `)*) +-> +` +
		`(?:(hide)|draw +(` + wordForm + `) +(` + numberForm + `) +(` + numberForm + `)) *\z`)
	signForm = regexp.MustCompile(`\A(!?)(` + wordForm + `)(!?)(=?)(.*)\z`)
)

// numberIn is above all that may stand there when the text is no number.
func numberIn(text string) int64 {
	n, err := strconv.ParseInt(text, 10, 64)
	if err != nil {
		return math.MaxInt64
	}
	return n
}

func testIn(word string) impl.Test {
	m := signForm.FindStringSubmatch(word)
	test := impl.Test{Key: m[2], Value: m[5]}
	switch m[1] + "KEY" + m[3] + m[4] {
	case "KEY=":
		test.Op = 1
	case "KEY!=":
		test.Op = 2
	case "KEY":
		test.Op = 3
	case "!KEY":
		test.Op = 4
	}
	return test
}

func ruleIn(line string) (impl.Rule, bool) {
	m := lineForm.FindStringSubmatch(line)
	if m == nil {
		return impl.Rule{}, false
	}
	r := impl.Rule{Low: numberIn(m[1]), High: numberIn(m[2]), Hide: m[4] == "hide", Colour: m[5]}
	for _, word := range strings.Split(m[3], " ") {
		if word != "" {
			r.Tests = append(r.Tests, testIn(word))
		}
	}
	if !r.Hide {
		r.Width, r.Layer = numberIn(m[6]), numberIn(m[7])
	}
	return r, r.Low <= r.High && r.High <= 10 && r.Width <= 1000 && r.Layer <= 1000
}

func styleIn(text string) ([]impl.Rule, int64) {
	if len(text) > 4000 {
		return nil, -1
	}
	var rs []impl.Rule
	for i, line := range strings.Split(text, "\n") {
		if line == "" || line[0] == '#' {
			continue
		}
		r, ok := ruleIn(line)
		if !ok || len(rs) >= 100 {
			return nil, int64(i) + 1
		}
		rs = append(rs, r)
	}
	return rs, 0
}

// testShown is right for tests that can be; ruleShown likewise for rules.
func testShown(test impl.Test) string {
	return []string{"", test.Key + "=" + test.Value, test.Key + "!=" + test.Value, test.Key, "!" + test.Key}[test.Op]
}

func ruleShown(r impl.Rule) string {
	text := "zoom " + strconv.Itoa(int(r.Low)) + "-" + strconv.Itoa(int(r.High))
	for _, test := range r.Tests {
		text += " " + testShown(test)
	}
	if r.Hide {
		return text + " -> hide\n"
	}
	return text + " -> draw " + r.Colour + " " + strconv.Itoa(int(r.Width)) + " " + strconv.Itoa(int(r.Layer)) + "\n"
}

var (
	wholeWord  = regexp.MustCompile(`\A` + wordForm + `\z`)
	wholeValue = regexp.MustCompile(`\A[!-~]*\z`)
)

// ruleCanBe asks of each field what a line could say of it.
func ruleCanBe(r impl.Rule) bool {
	ok := 0 <= r.Low && r.Low <= r.High && r.High <= 10
	for _, test := range r.Tests {
		ok = ok && wholeWord.MatchString(test.Key) && wholeValue.MatchString(test.Value)
		ok = ok && (test.Op == 1 || test.Op == 2 || (test.Op == 3 || test.Op == 4) && test.Value == "")
	}
	if r.Hide {
		return ok && r.Colour == "" && r.Width == 0 && r.Layer == 0
	}
	return ok && wholeWord.MatchString(r.Colour) && 0 <= r.Width && r.Width <= 1000 && 0 <= r.Layer && r.Layer <= 1000
}

func styleShown(rs []impl.Rule) string {
	text := ""
	for _, r := range rs {
		if !ruleCanBe(r) {
			return ""
		}
		text += ruleShown(r)
	}
	if len(rs) > 100 || len(text) > 4000 {
		return ""
	}
	return text
}

func appliesTo(r impl.Rule, ts []impl.Tag, zoom int64) bool {
	ok := r.Low <= zoom && zoom <= r.High
	for _, test := range r.Tests {
		i := slices.IndexFunc(ts, func(tag impl.Tag) bool { return tag.Key == test.Key })
		value := ""
		if i >= 0 {
			value = ts[i].Value
		}
		right := map[int64]bool{1: value == test.Value, 2: value != test.Value, 3: i >= 0, 4: i < 0}
		ok = ok && right[test.Op]
	}
	return ok
}

// paintOf answers the rule as a list of one, or none.
func paintOf(rs []impl.Rule, ts []impl.Tag, zoom int64) []impl.Rule {
	var last []impl.Rule
	for _, r := range rs {
		if len(rs) <= 100 && appliesTo(r, ts, zoom) {
			last = []impl.Rule{r}
			if r.Hide {
				last = nil
			}
		}
	}
	return last
}

// strokesOf takes as often as there are lines the first of those that are left and lie lowest.
func strokesOf(d impl.TileData, rs []impl.Rule) []impl.Stroke {
	if len(d.Lines) > 2000 {
		return nil
	}
	var left, strokes []impl.Stroke
	for _, l := range d.Lines {
		for _, r := range paintOf(rs, l.Tags, d.Tile.Zoom) {
			left = append(left, impl.Stroke{Way: l.Way, Row: l.Row, Colour: r.Colour, Width: r.Width, Layer: r.Layer})
		}
	}
	for len(left) > 0 {
		low := 0
		for i := range left {
			if left[i].Layer < left[low].Layer {
				low = i
			}
		}
		strokes = append(strokes, left[low])
		left = slices.Delete(left, low, low+1)
	}
	return strokes
}

// placesOn are those between two points, without them.
func placesOn(a impl.Point, b impl.Point) []impl.Point {
	dx, dy := b.X-a.X, b.Y-a.Y
	n := max(dx, -dx, dy, -dy)
	var ps []impl.Point
	for i := int64(1); i < n; i++ {
		ps = append(ps, at(a.X+floorShare(dx, i, n), a.Y+floorShare(dy, i, n)))
	}
	return ps
}

func pictureOf(ss []impl.Stroke, size int64) []string {
	if size < 1 || size > 256 || len(ss) > 2000 {
		return nil
	}
	puts := map[impl.Point]byte{}
	for _, s := range ss {
		if s.Colour == "" || slices.ContainsFunc(s.Row, func(p impl.Point) bool { return !lies(p, box(0, 0, 4096, 4096)) }) {
			continue
		}
		where := slices.Clone(s.Row)
		for i := 1; i < len(s.Row); i++ {
			where = append(where, placesOn(s.Row[i-1], s.Row[i])...)
		}
		for _, p := range where {
			puts[at(floorShare(p.X, size, 4097), floorShare(p.Y, size, 4097))] = s.Colour[0]
		}
	}
	var picture []string
	for y := size - 1; y >= 0; y-- {
		var text []byte
		for x := range size {
			b, put := puts[at(x, y)]
			if !put {
				b = ' '
			}
			text = append(text, b)
		}
		picture = append(picture, string(text))
	}
	return picture
}
