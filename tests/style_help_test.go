package tests

import (
	"math/rand"
	"slices"
	"strconv"
	"strings"
	"testing"

	"loop.example/g00024/impl"
)

func is(key string, value string) impl.Test {
	return impl.Test{Key: key, Op: impl.TestIs, Value: value}
}

func isNot(key string, value string) impl.Test {
	return impl.Test{Key: key, Op: impl.TestNot, Value: value}
}

func has(key string) impl.Test { return impl.Test{Key: key, Op: impl.TestHas} }

func lacks(key string) impl.Test { return impl.Test{Key: key, Op: impl.TestLacks} }

// draws is a rule for every zoom; hides likewise.
func draws(colour string, width int64, layer int64, tests ...impl.Test) impl.Rule {
	return impl.Rule{High: impl.MaxZoom, Tests: tests, Colour: colour, Width: width, Layer: layer}
}

func hides(tests ...impl.Test) impl.Rule {
	return impl.Rule{High: impl.MaxZoom, Tests: tests, Hide: true}
}

func zoomed(low int64, high int64, r impl.Rule) impl.Rule {
	r.Low, r.High = low, high
	return r
}

// sameRule holds two against each other, with an empty list as nil.
func sameRule(a impl.Rule, b impl.Rule) bool {
	tests := slices.Equal(a.Tests, b.Tests)
	a.Tests, b.Tests = nil, nil
	return tests && a.Low == b.Low && a.High == b.High && a.Hide == b.Hide && a.Colour == b.Colour && a.Width == b.Width && a.Layer == b.Layer
}

func sameRules(a []impl.Rule, b []impl.Rule) bool { return slices.EqualFunc(a, b, sameRule) }

func sameStroke(a impl.Stroke, b impl.Stroke) bool {
	return a.Way == b.Way && slices.Equal(a.Row, b.Row) && a.Colour == b.Colour && a.Width == b.Width && a.Layer == b.Layer
}

func sameStrokes(a []impl.Stroke, b []impl.Stroke) bool { return slices.EqualFunc(a, b, sameStroke) }

func checkStyle(t *testing.T, name string, text string, want ...impl.Rule) {
	t.Helper()
	if got, fault := impl.ReadStyle(text); fault != 0 || !sameRules(got, want) {
		t.Errorf("%s: %.200q was read as %s, %d", name, text, short(got), fault)
	}
}

func checkNoStyle(t *testing.T, name string, text string, want int64) {
	t.Helper()
	if got, fault := impl.ReadStyle(text); fault != want || len(got) > 0 {
		t.Errorf("%s: %.200q was read as %s, %d and not %d", name, text, short(got), fault, want)
	}
}

func checkShown(t *testing.T, name string, want string, rs ...impl.Rule) {
	t.Helper()
	if got := impl.ShowStyle(rs); got != want {
		t.Errorf("%s: %.200q, not %.200q", name, got, want)
	}
}

func checkApplies(t *testing.T, name string, r impl.Rule, ts []impl.Tag, zoom int64, want bool) {
	t.Helper()
	if got := impl.Applies(r, ts, zoom); got != want {
		t.Error(name, short(r), short(ts), zoom, got)
	}
}

// checkPaint wants the zero value and false where want is none.
func checkPaint(t *testing.T, name string, rs []impl.Rule, ts []impl.Tag, zoom int64, want ...impl.Rule) {
	t.Helper()
	got, paints := impl.Paint(rs, ts, zoom)
	if paints != (len(want) > 0) || !sameRule(got, append(want, impl.Rule{})[0]) {
		t.Error(name, short(rs), short(ts), zoom, "gives", short(got), paints)
	}
}

func checkStrokes(t *testing.T, name string, d impl.TileData, rs []impl.Rule, want ...impl.Stroke) {
	t.Helper()
	if got := impl.Strokes(d, rs); !sameStrokes(got, want) {
		t.Error(name, "gives", short(got), "and not", short(want))
	}
}

func inked(colour string, coords ...int64) impl.Stroke {
	return impl.Stroke{Way: 1, Row: path(coords...), Colour: colour, Width: 1}
}

// checkPicture asks for the same of the strokes turned round: where a row goes hangs not on its beginning.
func checkPicture(t *testing.T, name string, ss []impl.Stroke, want ...string) {
	t.Helper()
	if got := impl.Picture(ss, int64(len(want))); !slices.Equal(got, want) {
		t.Errorf("%s: %.300q, not %.300q", name, got, want)
	}
	back := slices.Clone(ss)
	for i := range back {
		back[i].Row = turned(back[i].Row)
	}
	if got := impl.Picture(back, int64(len(want))); !slices.Equal(got, want) {
		t.Errorf("%s, turned round: %.300q, not %.300q", name, got, want)
	}
}

func checkNoPicture(t *testing.T, name string, ss []impl.Stroke, size int64) {
	t.Helper()
	if got := impl.Picture(ss, size); len(got) > 0 {
		t.Error(name, size, short(got))
	}
}

// pick is one of several, by chance.
func pick[T any](r *rand.Rand, list ...T) T { return list[r.Intn(len(list))] }

// someTest has Keys and Values that someTags has too, so that it is right now and then.
func someTest(r *rand.Rand) impl.Test {
	key := pick(r, "a", "highway", "name", "b:_9")
	value := pick(r, "", "v"+strconv.Itoa(r.Intn(4)), "v"+strconv.Itoa(r.Intn(9)), "=!", "!", "->", "~")
	return pick(r, is(key, value), isNot(key, value), has(key), lacks(key))
}

// someRule is one that can be.
func someRule(r *rand.Rand) impl.Rule {
	var tests []impl.Test
	for r.Intn(3) > 0 {
		tests = append(tests, someTest(r))
	}
	low := r.Int63n(impl.MaxZoom + 1)
	rule := zoomed(low, low+r.Int63n(impl.MaxZoom+1-low), draws(pick(r, "red", "grey", "b", "_:0"), r.Int63n(1001), pick(r, 0, 1, 2, 3, r.Int63n(1001)), tests...))
	if r.Intn(3) == 0 {
		return zoomed(rule.Low, rule.High, hides(tests...))
	}
	return rule
}

func someRules(r *rand.Rand, most int) []impl.Rule {
	rs := make([]impl.Rule, r.Intn(most+1))
	for i := range rs {
		rs[i] = someRule(r)
	}
	return rs
}

// manyRules are that many, each of its own.
func manyRules(count int) []impl.Rule {
	var rs []impl.Rule
	for i := range count {
		rs = append(rs, draws("c"+strconv.Itoa(i), int64(i%1001), 0))
	}
	return rs
}

// manyLines are rules enough as a text.
func manyLines(count int) string { return strings.Repeat("zoom 0-10 -> hide\n", count) }

// shakenRule is a rule with one field changed, so that it may be none any more.
func shakenRule(r *rand.Rand, plain impl.Rule) impl.Rule {
	rule := same(plain)
	n := pick(r, -1, 0, 1, 10, 11, 1000, 1001, r.Int63())
	text := pick(r, "", "a", "red", "A", "a b", "a\n", "=", "!", "v\x7f", "\xff", "->", "a=b", "!a", strings.Repeat("w", 41))
	switch kind := r.Intn(8); {
	case kind == 0:
		rule.Low = n
	case kind == 1:
		rule.High = n
	case kind == 2:
		rule.Hide = !rule.Hide
	case kind == 3:
		rule.Colour = text
	case kind == 4:
		rule.Width = n
	case kind == 5:
		rule.Layer = n
	case len(rule.Tests) > 0:
		test := &rule.Tests[r.Intn(len(rule.Tests))]
		switch r.Intn(3) {
		case 0:
			test.Key = text
		case 1:
			test.Op = r.Int63n(7) - 1
		default:
			test.Value = text
		}
	}
	return rule
}
