package tests

import (
	"math"
	"slices"
	"strings"
	"testing"

	"loop.example/g00024/impl"
)

// Promise 19, of chapter 7: every function answers at every argument and none panics; answers are new memory; arguments stay.

type styleRead struct {
	Rules []impl.Rule
	Fault int64
}

type rulesTagsAndZoom struct {
	Rules []impl.Rule
	Tags  []impl.Tag
	Zoom  int64
}

type painted struct {
	Rule   impl.Rule
	Paints bool
}

type dataAndRules struct {
	Data  impl.TileData
	Rules []impl.Rule
}

type strokesAndSize struct {
	Strokes []impl.Stroke
	Size    int64
}

func askStyle(s string) styleRead {
	rs, fault := impl.ReadStyle(s)
	return styleRead{rs, fault}
}

func askApplies(a rulesTagsAndZoom) []bool {
	var all []bool
	for _, r := range a.Rules {
		all = append(all, impl.Applies(r, a.Tags, a.Zoom))
	}
	return all
}

func askPaint(a rulesTagsAndZoom) painted {
	r, paints := impl.Paint(a.Rules, a.Tags, a.Zoom)
	return painted{r, paints}
}

func askStrokes(a dataAndRules) []impl.Stroke { return impl.Strokes(a.Data, a.Rules) }

func askPicture(a strokesAndSize) []string { return impl.Picture(a.Strokes, a.Size) }

// rulesToGuard are of each kind: none, by chance, as many as may be and one more, and such as can't be.
func rulesToGuard() [][]impl.Rule {
	list := [][]impl.Rule{
		nil, {}, {hides()}, {draws("red", 1, 1)}, manyRules(impl.MaxRules), manyRules(impl.MaxRules + 1),
		{draws("red", 1, 1, has("a"), lacks("b")), draws("blue", 2, 2, is("highway", "v1"), isNot("name", "v2")), hides(has("none"))},
	}
	tell := numbers(92)
	for range 60 {
		list = append(list, append(someRules(tell, 8), draws("last", 1, tell.Int63n(3), lacks("name"), lacks("z"))))
	}
	for _, bad := range badRules() {
		list = append(list, []impl.Rule{draws("red", 1, 1, has("a")), bad, hides(lacks("b"))})
	}
	return list
}

func TestRulesStayAndPaintIsNew(t *testing.T) {
	tell := numbers(93)
	for _, rs := range rulesToGuard() {
		checkMemory(t, "ShowStyle", rs, impl.ShowStyle)
		checkMemory(t, "ReadStyle", impl.ShowStyle(rs), askStyle)
		for _, ts := range [][]impl.Tag{nil, someTags(tell), manyTags(5), tags("highway", "v1", "name", "v3")} {
			for _, zoom := range []int64{-1, 0, 5, 10} {
				checkMemory(t, "Applies", rulesTagsAndZoom{rs, ts, zoom}, askApplies)
				checkMemory(t, "Paint", rulesTagsAndZoom{rs, ts, zoom}, askPaint)
			}
		}
	}
	checkMemory(t, "ReadStyle", "zoom 0-10 a=b !c -> hide\nzoom 0-10 a=b !c -> hide\nzoom 0-10 -> hide\nzoom 1-2 a b c d e -> hide", askStyle)
	checkMemory(t, "ReadStyle", "zoom 0-10 a=b !c -> hide\nfault", askStyle)
}

func TestTilesStayAndStrokesAreNew(t *testing.T) {
	tell := numbers(94)
	rules := rulesToGuard()
	for _, d := range tileDataToGuard() {
		for range 4 {
			checkMemory(t, "Strokes", dataAndRules{d, rules[tell.Intn(len(rules))]}, askStrokes)
		}
		checkMemory(t, "Strokes", dataAndRules{d, []impl.Rule{zoomed(math.MinInt64, math.MaxInt64, draws("red", 1, 1, lacks("none")))}}, askStrokes)
	}
	for _, size := range []int64{0, 1, 5, 20, impl.MaxPicture, impl.MaxPicture + 1} {
		checkMemory(t, "Picture", strokesAndSize{nil, size}, askPicture)
		checkMemory(t, "Picture", strokesAndSize{[]impl.Stroke{inked("a", 0, 0, 4096, 3), inked("", 1, 1), inked("b", -1, 0, 5, 5), inked("c")}, size}, askPicture)
	}
}

// What was told before stays as it was, whatever is done to the arguments and to what is told later.
func TestPaintDoesNotFollow(t *testing.T) {
	text := "zoom 0-10 kind=a !gone -> draw red 1 2\nzoom 0-10 kind=b x!=y -> draw blue 3 1\n"
	rs := []impl.Rule{draws("grey", 1, 1, lacks("gone"), lacks("more")), draws("red", 2, 2, is("kind", "b"), lacks("gone"))}
	d := tileData(tile(5, 1, 1), line(1, path(0, 0, 9, 9), "kind", "a"), line(2, path(5, 5, 6, 6), "kind", "b"))
	type told struct {
		Read    []impl.Rule
		Painted impl.Rule
		Other   impl.Rule
		Strokes []impl.Stroke
		Picture []string
		Shown   string
	}
	ask := func() told {
		var a told
		a.Read, _ = impl.ReadStyle(text)
		a.Painted, _ = impl.Paint(rs, tags("kind", "b"), 5)
		a.Other, _ = impl.Paint(rs, nil, 5)
		a.Strokes = impl.Strokes(d, rs)
		a.Picture, a.Shown = impl.Picture(a.Strokes, 3), impl.ShowStyle(rs)
		return a
	}
	first := ask()
	kept, later := same(first), ask()
	clear(later.Read[0].Tests)
	clear(later.Read)
	clear(later.Painted.Tests)
	clear(later.Other.Tests)
	clear(later.Strokes[0].Row)
	clear(later.Strokes)
	clear(later.Picture)
	_ = append(later.Read[:0], hides(), hides(), hides())
	clear(first.Read[1].Tests)
	_ = append(first.Read[0].Tests, has("litter"), has("litter"), has("litter"))
	_ = append(first.Strokes[0].Row, path(7, 7, 8, 8, 9, 9)...)
	for i := range rs {
		clear(rs[i].Tests)
	}
	clear(rs)
	for i := range d.Lines {
		clear(d.Lines[i].Row)
		clear(d.Lines[i].Tags)
	}
	clear(d.Lines)
	kept.Read[1].Tests = make([]impl.Test, 2)
	if !sameRules(first.Read, kept.Read) || !sameRule(first.Painted, kept.Painted) || !sameRule(first.Other, kept.Other) ||
		!sameStrokes(first.Strokes, kept.Strokes) || !slices.Equal(first.Picture, kept.Picture) || first.Shown != kept.Shown {
		t.Error("an answer changed with an argument, or with a later one")
	}
	if !sameRule(first.Painted, draws("red", 2, 2, is("kind", "b"), lacks("gone"))) || !sameStroke(first.Strokes[0], stroked(1, path(0, 0, 9, 9), draws("grey", 1, 1))) {
		t.Error(first)
	}
}

func TestTextsOfEveryKindAreRead(t *testing.T) {
	tell := numbers(95)
	words := []string{"zoom", "0-10", "3-4", "->", "draw", "hide", "red", "1", "1000", "a=b", "!a", "a!=", "=", "!", "#", " ", "\n", "\n\n", "", "\x00", "\xff", "\t", "-", "9-", "99999999999", strings.Repeat("x", 41)}
	read := 0
	for range 60000 {
		var text strings.Builder
		text.WriteString(pick(tell, "", "zoom 0-10 ", " zoom  3-4 a "))
		for range tell.Intn(6) {
			text.WriteString(words[tell.Intn(len(words))])
			text.WriteString(pick(tell, " ", " ", " ", "", "\n"))
		}
		text.WriteString(pick(tell, "", " -> hide", "-> draw red 1 1 "))
		want, fault := styleIn(text.String())
		read += count(fault == 0 && len(want) > 0)
		if got, told := impl.ReadStyle(text.String()); told != fault || !sameRules(got, want) {
			t.Fatalf("%q: %v %d, not %v %d", text.String(), got, told, want, fault)
		}
		b := make([]byte, tell.Intn(60))
		tell.Read(b)
		want, fault = styleIn(string(b))
		if got, told := impl.ReadStyle(string(b)); told != fault || !sameRules(got, want) {
			t.Fatalf("%q: %v %d, not %v %d", b, got, told, want, fault)
		}
	}
	if read < 2000 {
		t.Error("too few were read:", read)
	}
}

func TestRulesOfEveryKindAreAnswered(t *testing.T) {
	tell := numbers(96)
	number := func() int64 { return pick(tell, append(strange(), 2, 3, 4, 5, 10, 11, 1000, 1001)...) }
	text := func() string { return pick(tell, "", "a", "b", "A", "a b", "name", "\xff", "\n", "=", "!", "->", "v1") }
	rule := func() impl.Rule {
		r := impl.Rule{Low: number(), High: number(), Hide: tell.Intn(4) == 0, Colour: text(), Width: number(), Layer: number()}
		for range tell.Intn(3) {
			r.Tests = append(r.Tests, impl.Test{Key: text(), Op: pick(tell, 1, 2, 3, 4, number()), Value: text()})
		}
		return r
	}
	painted := 0
	for range 20000 {
		rs, d := make([]impl.Rule, tell.Intn(5)), tileData(tile(number(), number(), number()))
		for i := range rs {
			rs[i] = rule()
		}
		for range tell.Intn(4) {
			d.Lines = append(d.Lines, impl.Line{Way: number(), Row: []impl.Point{at(number(), number())}, Tags: []impl.Tag{tag(text(), text()), tag(text(), text())}})
		}
		checkShown(t, "strange", styleShown(rs), rs...)
		for _, l := range d.Lines {
			checkPaint(t, "strange", rs, l.Tags, d.Tile.Zoom, paintOf(rs, l.Tags, d.Tile.Zoom)...)
		}
		want := strokesOf(d, rs)
		painted += len(want)
		checkStrokes(t, "strange", d, rs, want...)
		size := pick(tell, number(), 1, 2, 5)
		if got := impl.Picture(want, size); !slices.Equal(got, pictureOf(want, size)) {
			t.Error("strange", short(want), size, got)
		}
		if t.Failed() {
			t.FailNow()
		}
	}
	if painted < 1000 {
		t.Error("too few were painted:", painted)
	}
	checkApplies(t, "a great list", hides(make([]impl.Test, 1<<20)...), make([]impl.Tag, 1<<20), 5, false)
	checkPaint(t, "a great list", make([]impl.Rule, 1<<20), make([]impl.Tag, 1<<20), 0)
	checkStrokes(t, "a great list", tileData(tile(0, 0, 0), make([]impl.Line, 1<<20)...), nil)
	checkStrokes(t, "a great list", tileData(tile(0, 0, 0), line(1, nil)), make([]impl.Rule, 1<<20))
}

func TestTheSameStylesAreAnsweredAgain(t *testing.T) {
	tell := numbers(97)
	for range 200 {
		rs, d := someRules(tell, 6), someTileData(tell)
		text, ss := impl.ShowStyle(rs), impl.Strokes(d, rs)
		picture := impl.Picture(ss, 20)
		impl.ReadStyle("zoom 0-10 -> hide")
		impl.Picture([]impl.Stroke{inked("x", 0, 0, 4096, 4096)}, 20)
		for range 3 {
			checkShown(t, "again", text, rs...)
			checkStyle(t, "again", text, rs...)
			checkStrokes(t, "again", d, rs, ss...)
			checkPicture(t, "again", ss, picture...)
		}
	}
}
