package tests

import (
	"math"
	"slices"
	"testing"

	"loop.example/g00024/impl"
)

// Promise 7: the last rule that applies paints; strokes are by layers.

func TestZoomsOfRules(t *testing.T) {
	for zoom := int64(-2); zoom < 14; zoom++ {
		checkApplies(t, "3 to 6", zoomed(3, 6, hides()), nil, zoom, zoom >= 3 && zoom <= 6)
		checkApplies(t, "one zoom", zoomed(4, 4, draws("red", 1, 1)), nil, zoom, zoom == 4)
		checkApplies(t, "the first", zoomed(0, 0, hides()), nil, zoom, zoom == 0)
		checkApplies(t, "every one", hides(), nil, zoom, zoom >= 0 && zoom <= 10)
		checkApplies(t, "Low above High", zoomed(6, 3, hides()), nil, zoom, false)
		checkApplies(t, "with a test", zoomed(3, 6, hides(has("a"))), tags("a", "b"), zoom, zoom >= 3 && zoom <= 6)
		// No zoom is asked for but that of the rule.
		checkApplies(t, "beyond all zooms", zoomed(-1, 12, hides()), nil, zoom, zoom >= -1 && zoom <= 12)
	}
	for _, zoom := range strange() {
		checkApplies(t, "a strange zoom", hides(), nil, zoom, zoom == 0 || zoom == 1)
		checkApplies(t, "all there are", zoomed(math.MinInt64, math.MaxInt64, hides()), nil, zoom, true)
		checkApplies(t, "none there is", zoomed(math.MaxInt64, math.MinInt64, hides()), nil, zoom, false)
	}
}

func TestEachOp(t *testing.T) {
	there, empty, missing := tags("a", "b", "k", "v", "z", "y"), tags("a", "b", "k", "", "z", "y"), tags("a", "b", "z", "y")
	for name, want := range map[string]struct {
		test                  impl.Test
		there, empty, missing bool
	}{
		"is v":     {is("k", "v"), true, false, false},
		"is w":     {is("k", "w"), false, false, false},
		"is empty": {is("k", ""), false, true, true},
		"not v":    {isNot("k", "v"), false, true, true},
		"not w":    {isNot("k", "w"), true, true, true},
		"not none": {isNot("k", ""), true, false, false},
		"has":      {has("k"), true, true, false},
		"lacks":    {lacks("k"), false, false, true},
		// A Value that the Op does not take is not asked about.
		"has, with a value":   {impl.Test{Key: "k", Op: impl.TestHas, Value: "w"}, true, true, false},
		"lacks, with a value": {impl.Test{Key: "k", Op: impl.TestLacks, Value: "v"}, false, false, true},
	} {
		checkApplies(t, name, hides(want.test), there, 5, want.there)
		checkApplies(t, name, hides(want.test), empty, 5, want.empty)
		checkApplies(t, name, hides(want.test), missing, 5, want.missing)
		checkApplies(t, name+", drawn", draws("red", 1, 1, want.test), there, 5, want.there)
		checkApplies(t, name+", beyond the zooms", zoomed(0, 4, hides(want.test)), there, 5, false)
	}
	for _, op := range append(strange(), 5) {
		if op == 1 {
			continue
		}
		for _, ts := range [][]impl.Tag{there, empty, missing, nil} {
			checkApplies(t, "an Op that is none", hides(impl.Test{Key: "k", Op: op, Value: "v"}), ts, 5, false)
			checkApplies(t, "an Op that is none", hides(impl.Test{Key: "k", Op: op}), ts, 5, false)
		}
	}
}

func TestSeveralTests(t *testing.T) {
	ts := tags("a", "1", "b", "2")
	checkApplies(t, "no tests", hides(), ts, 5, true)
	checkApplies(t, "no tests, no tags", hides(), nil, 5, true)
	checkApplies(t, "an empty list", impl.Rule{High: 10, Tests: []impl.Test{}}, ts, 5, true)
	all := []impl.Test{is("a", "1"), isNot("b", "3"), has("b"), lacks("c")}
	checkApplies(t, "all right", hides(all...), ts, 5, true)
	for i, wrong := range []impl.Test{is("a", "2"), isNot("b", "2"), has("c"), lacks("a")} {
		one := slices.Clone(all)
		one[i] = wrong
		checkApplies(t, "one is wrong", hides(one...), ts, 5, false)
		checkApplies(t, "one more is wrong", hides(append(slices.Clone(all), wrong)...), ts, 5, false)
		checkApplies(t, "the first is wrong", hides(append([]impl.Test{wrong}, all...)...), ts, 5, false)
	}
	checkApplies(t, "twice", hides(has("a"), has("a")), ts, 5, true)
	checkApplies(t, "against each other", hides(has("a"), lacks("a")), ts, 5, false)
}

// Of tags that can't be, the first with that Key counts.
func TestRulesOnAnyTags(t *testing.T) {
	ts := tags("b", "1", "a", "2", "b", "3", "", "4", "A B", "5", "c", "", "c", "7")
	for _, test := range []impl.Test{is("b", "1"), isNot("b", "3"), is("", "4"), is("A B", "5"), is("c", ""), has("c"), has(""), has("A B"), isNot("c", "7"), is("d", "")} {
		checkApplies(t, "right", hides(test), ts, 5, true)
	}
	for _, test := range []impl.Test{is("b", "3"), isNot("b", "1"), lacks(""), lacks("c"), is("c", "7"), isNot("c", ""), has("d"), has("a b")} {
		checkApplies(t, "wrong", hides(test), ts, 5, false)
	}
	checkApplies(t, "many", hides(has("k1199")), manyTags(200), 5, true)
	checkApplies(t, "many", hides(lacks("k1200")), manyTags(200), 5, true)
}

func TestPaint(t *testing.T) {
	grey, red, main := draws("grey", 1, 0), draws("red", 4, 2, is("highway", "main")), tags("highway", "main")
	checkPaint(t, "no rules", nil, main, 5)
	checkPaint(t, "none applies", []impl.Rule{red, zoomed(6, 9, grey)}, nil, 5)
	checkPaint(t, "one", []impl.Rule{grey}, nil, 5, grey)
	checkPaint(t, "one of two", []impl.Rule{grey, red}, nil, 5, grey)
	checkPaint(t, "one of two", []impl.Rule{red, grey}, tags("highway", "street"), 5, grey)
	checkPaint(t, "the last of two", []impl.Rule{grey, red}, main, 5, red)
	checkPaint(t, "the last of two", []impl.Rule{red, grey}, main, 5, grey)
	checkPaint(t, "by the zoom", []impl.Rule{grey, zoomed(3, 9, red)}, main, 2, grey)
	checkPaint(t, "by the zoom", []impl.Rule{grey, zoomed(3, 9, red)}, main, 3, zoomed(3, 9, red))
	checkPaint(t, "the last one hides", []impl.Rule{grey, red, hides()}, main, 5)
	checkPaint(t, "it alone hides", []impl.Rule{hides()}, main, 5)
	checkPaint(t, "one ahead hides", []impl.Rule{grey, hides(), red}, main, 5, red)
	checkPaint(t, "one ahead hides, the last does not apply", []impl.Rule{grey, hides(), red}, nil, 5)
	checkPaint(t, "one that does not apply hides", []impl.Rule{grey, hides(has("x"))}, main, 5, grey)
	checkPaint(t, "the first hides", []impl.Rule{hides(), grey}, main, 5, grey)
	// What hides, hides, whatever else it has.
	checkPaint(t, "a hiding rule with a colour", []impl.Rule{grey, {High: 10, Hide: true, Colour: "red", Width: 1, Layer: 1}}, main, 5)
	// What a style could not say paints all the same.
	odd := impl.Rule{Low: -5, High: 50, Tests: []impl.Test{is("A B", "")}, Width: -7, Layer: 5000}
	checkPaint(t, "a rule that no line says", []impl.Rule{grey, odd}, main, 40, odd)
	checkPaint(t, "a rule that no line says", []impl.Rule{grey, odd}, main, 5, odd)
}

func TestPaintWithAsManyRulesAsMayBe(t *testing.T) {
	rs := manyRules(impl.MaxRules)
	checkPaint(t, "MaxRules", rs, nil, 5, rs[99])
	checkPaint(t, "MaxRules and one more", manyRules(impl.MaxRules+1), nil, 5)
	checkPaint(t, "far more", manyRules(1<<16), nil, 5)
	for i := range rs {
		only := make([]impl.Rule, impl.MaxRules)
		for k := range only {
			only[k] = draws("other", 1, 1, has("none"))
		}
		only[i] = rs[i]
		checkPaint(t, "one of MaxRules", only, nil, 5, rs[i])
		checkPaint(t, "one of one more", append(only, draws("other", 1, 1, has("none"))), nil, 5)
	}
}

// Whatever stands ahead of the last rule that applies, and whatever does not apply behind it, it paints.
func TestTheLastRulePaints(t *testing.T) {
	tell := numbers(87)
	painted := 0
	for range 30000 {
		ts, zoom := someTags(tell), tell.Int63n(11)
		last := someRule(tell)
		if !appliesTo(last, ts, zoom) {
			continue
		}
		rs := append(someRules(tell, 6), last)
		for range tell.Intn(4) {
			if r := someRule(tell); !appliesTo(r, ts, zoom) {
				rs = append(rs, r)
			}
		}
		if last.Hide {
			checkPaint(t, "the last one hides", rs, ts, zoom)
		} else {
			painted++
			checkPaint(t, "the last one paints", rs, ts, zoom, last)
		}
		if t.Failed() {
			t.FailNow()
		}
	}
	if painted < 1000 {
		t.Error("too few:", painted)
	}
}

func TestPaintAgainstTheWords(t *testing.T) {
	tell := numbers(88)
	painted := 0
	for range 30000 {
		rs, ts, zoom := someRules(tell, 8), someTags(tell), tell.Int63n(13)-1
		for i, r := range rs {
			if tell.Intn(6) == 0 {
				rs[i] = shakenRule(tell, r)
			}
			checkApplies(t, "by chance", rs[i], ts, zoom, appliesTo(rs[i], ts, zoom))
		}
		want := paintOf(rs, ts, zoom)
		painted += len(want)
		checkPaint(t, "by chance", rs, ts, zoom, want...)
		if t.Failed() {
			t.FailNow()
		}
	}
	if painted < 5000 || painted > 25000 {
		t.Error("too few of a kind:", painted)
	}
}

func stroked(way int64, row []impl.Point, r impl.Rule) impl.Stroke {
	return impl.Stroke{Way: way, Row: row, Colour: r.Colour, Width: r.Width, Layer: r.Layer}
}

func TestStrokes(t *testing.T) {
	high, low, flat := draws("red", 4, 7, is("kind", "high")), draws("blue", 2, 3, is("kind", "low")), draws("grey", 1, 3, is("kind", "flat"))
	rs := []impl.Rule{high, low, flat, hides(has("gone"))}
	d := tileData(tile(5, 1, 1),
		line(1, path(0, 0, 1, 1), "kind", "high"), line(2, path(2, 2), "kind", "low"), line(3, nil, "kind", "flat"), line(4, path(4, 4, 5, 5), "kind", "none"),
		line(5, path(5, 5), "gone", "yes", "kind", "high"), line(6, path(6, 6), "kind", "low"), line(7, path(7, 7), "kind", "high"), line(1, path(8, 8), "kind", "flat"), line(9, path(9, 9)))
	checkStrokes(t, "by layers", d, rs,
		stroked(2, path(2, 2), low), stroked(3, nil, flat), stroked(6, path(6, 6), low), stroked(1, path(8, 8), flat), stroked(1, path(0, 0, 1, 1), high), stroked(7, path(7, 7), high))
	checkStrokes(t, "no rules", d, nil)
	checkStrokes(t, "no lines", tileData(tile(5, 1, 1)), rs)
	checkStrokes(t, "none is painted", d, []impl.Rule{hides()})
	checkStrokes(t, "one layer", tileData(tile(5, 1, 1), line(3, nil), line(2, nil), line(1, nil)), []impl.Rule{draws("a", 1, 1)},
		stroked(3, nil, draws("a", 1, 1)), stroked(2, nil, draws("a", 1, 1)), stroked(1, nil, draws("a", 1, 1)))
	// Neither the width nor the colour nor the order of the rules has a part in it.
	checkStrokes(t, "by the layer alone", tileData(tile(5, 1, 1), line(1, nil, "k", "b"), line(2, nil, "k", "a")), []impl.Rule{draws("a", 1, 5, is("k", "a")), draws("b", 9, 5, is("k", "b"))},
		stroked(1, nil, draws("b", 9, 5)), stroked(2, nil, draws("a", 1, 5)))
	odd := []impl.Rule{draws("a", -1, math.MaxInt64, is("k", "a")), draws("", 1, math.MinInt64, is("k", "b")), draws("c", 1, 0, is("k", "c"))}
	checkStrokes(t, "layers that no line says", tileData(tile(5, 1, 1), line(1, nil, "k", "a"), line(2, nil, "k", "b"), line(3, nil, "k", "c")), odd,
		stroked(2, nil, odd[1]), stroked(3, nil, odd[2]), stroked(1, nil, odd[0]))
}

func TestStrokesAtTheTilesZoom(t *testing.T) {
	rs := []impl.Rule{zoomed(0, 4, draws("far", 1, 1)), zoomed(6, 6, draws("near", 1, 1)), zoomed(50, 60, draws("odd", 1, 1))}
	for zoom, colour := range map[int64]string{0: "far", 4: "far", 6: "near", 55: "odd"} {
		checkStrokes(t, "painted", tileData(tile(zoom, 0, 0), line(1, path(3, 3))), rs, stroked(1, path(3, 3), draws(colour, 1, 1)))
	}
	for _, zoom := range []int64{-1, 5, 7, 10, 49, 61, math.MaxInt64, math.MinInt64} {
		checkStrokes(t, "not painted", tileData(tile(zoom, 0, 0), line(1, path(3, 3))), rs)
	}
	// No more is asked of the lines: rows and Ids are told as they are.
	odd := line(-5, path(-1, 5000, math.MaxInt64, math.MinInt64), "A B", "")
	checkStrokes(t, "a line that can't be", tileData(tile(6, 9999, -1), odd), rs, stroked(-5, odd.Row, rs[1]))
}

func TestHowManyStrokes(t *testing.T) {
	rs := []impl.Rule{draws("red", 1, 1)}
	d := tileData(tile(5, 1, 1), lines(impl.MaxLines)...)
	got := impl.Strokes(d, rs)
	if len(got) != 2000 || got[0].Way != 1 || got[1999].Way != 2000 {
		t.Error(len(got))
	}
	checkStrokes(t, "one line more", tileData(tile(5, 1, 1), lines(impl.MaxLines+1)...), rs)
	checkStrokes(t, "far more lines", tileData(tile(5, 1, 1), lines(1<<17)...), rs)
	few := tileData(tile(5, 1, 1), lines(2)...)
	last := manyRules(impl.MaxRules)[99]
	checkStrokes(t, "MaxRules", few, manyRules(impl.MaxRules), stroked(1, path(5, 5), last), stroked(2, path(5, 5), last))
	checkStrokes(t, "one rule more", few, manyRules(impl.MaxRules+1))
	checkStrokes(t, "more of both", tileData(tile(5, 1, 1), lines(impl.MaxLines+1)...), manyRules(impl.MaxRules+1))
	if got := impl.Strokes(d, manyRules(impl.MaxRules)); len(got) != 2000 {
		t.Error(len(got))
	}
	// Many lines and layers, from the last to the first.
	var back []impl.Rule
	for i := range int64(impl.MaxRules) {
		back = append(back, draws("c", 0, 1000-10*i, is("k", string(rune(33+i%90))), lacks(string(rune('a'+i/90)))))
	}
	for i := range d.Lines {
		d.Lines[i].Tags = tags("k", string(rune(33+i%90)))
	}
	if got := impl.Strokes(d, back); !sameStrokes(got, strokesOf(d, back)) || len(got) != 2000 || got[0].Layer >= got[1999].Layer {
		t.Error(len(got))
	}
}

func TestStrokesAgainstTheWords(t *testing.T) {
	tell := numbers(89)
	told, moved := 0, 0
	for range 10000 {
		d, rs := someTileData(tell), someRules(tell, 6)
		for range tell.Intn(12) {
			d.Lines = append(d.Lines, someTileData(tell).Lines...)
		}
		for range tell.Intn(4) {
			rs = append(rs, draws("more", 1, tell.Int63n(5), pick(tell, has("a"), has("highway"), lacks("name"))))
		}
		want := strokesOf(d, rs)
		checkStrokes(t, "by chance", d, rs, want...)
		got := impl.Strokes(d, rs)
		if !slices.IsSortedFunc(got, func(a impl.Stroke, b impl.Stroke) int { return int(a.Layer - b.Layer) }) {
			t.Error("not by layers:", short(got))
		}
		// As many as are painted, of each way as many as it has lines that are.
		ways := map[int64]int{}
		for _, l := range d.Lines {
			if _, paints := impl.Paint(rs, l.Tags, d.Tile.Zoom); paints {
				ways[l.Way]++
			}
		}
		for _, s := range got {
			ways[s.Way]--
		}
		for way, left := range ways {
			if left != 0 {
				t.Error("way", way, "has", left, "lines that are painted, but no strokes")
			}
		}
		told += len(got)
		moved += count(len(got) > 1 && got[0].Layer < got[len(got)-1].Layer)
		if t.Failed() {
			t.FailNow()
		}
	}
	if told < 10000 || moved < 1000 {
		t.Error("too few of a kind:", told, moved)
	}
}
