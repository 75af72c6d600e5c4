package tests

import (
	"strconv"
	"strings"
	"testing"

	"loop.example/g00024/impl"
)

// Promise 7, of ReadStyle: what is a rule, and which line is none.

func TestStylesWithoutRules(t *testing.T) {
	for _, text := range []string{
		"", "\n", "\n\n", "#", "#\n", "# all\n\n#\n", "\n#zoom 0-1 -> hide", "#\x00\t\xff", "##", "# \n#", "\n\n\n# zoom",
		strings.Repeat("\n", impl.MaxStyle), "#" + strings.Repeat("x", impl.MaxStyle-1),
	} {
		checkStyle(t, "no rules", text)
	}
}

func TestStyles(t *testing.T) {
	checkStyle(t, "one", "zoom 0-10 -> draw grey 1 0", draws("grey", 1, 0))
	checkStyle(t, "with a newline", "zoom 0-10 -> draw grey 1 0\n", draws("grey", 1, 0))
	checkStyle(t, "with two", "zoom 0-10 -> draw grey 1 0\n\n", draws("grey", 1, 0))
	checkStyle(t, "hiding", "zoom 0-10 -> hide", hides())
	checkStyle(t, "in order", "zoom 0-10 -> draw b 2 3\nzoom 0-10 -> hide\nzoom 0-10 -> draw a 1 1", draws("b", 2, 3), hides(), draws("a", 1, 1))
	checkStyle(t, "the same twice", "zoom 0-10 -> hide\nzoom 0-10 -> hide\n", hides(), hides())
	checkStyle(t, "between remarks", "# all\nzoom 0-10 -> draw grey 1 0\n\n#zoom\nzoom 3-9 highway=main !oneway -> draw red 4 2\n\n#",
		draws("grey", 1, 0), zoomed(3, 9, draws("red", 4, 2, is("highway", "main"), lacks("oneway"))))
	for low := range int64(impl.MaxZoom + 1) {
		for high := range int64(impl.MaxZoom + 3) {
			text := "zoom " + strconv.Itoa(int(low)) + "-" + strconv.Itoa(int(high)) + " -> hide"
			if low <= high && high <= impl.MaxZoom {
				checkStyle(t, "zooms", text, zoomed(low, high, hides()))
			} else {
				checkNoStyle(t, "zooms", text, 1)
			}
		}
	}
}

func TestBlanksInStyles(t *testing.T) {
	want := zoomed(1, 2, draws("red", 3, 4, has("a"), is("b", "c")))
	for _, text := range []string{
		"zoom 1-2 a b=c -> draw red 3 4", " zoom 1-2 a b=c -> draw red 3 4", "zoom 1-2 a b=c -> draw red 3 4 ",
		"   zoom   1-2   a   b=c   ->   draw   red   3   4   ", "zoom  1-2 a b=c -> draw red 3 4", "zoom 1-2 a b=c ->  draw red 3 4  \n",
	} {
		checkStyle(t, "blanks", text, want)
	}
	// A line of blanks is not empty, and one that begins with a blank does not begin with #.
	for _, line := range []string{" ", "   ", " #", "  # all", " #zoom 0-1 -> hide"} {
		checkNoStyle(t, "blanks", line, 1)
		checkNoStyle(t, "blanks", "\n"+line+"\n", 2)
	}
	// Other white space parts no words.
	for _, space := range []string{"\t", "\r", "\v", "\f", "\u00a0", "\u2003", "\x00"} {
		for _, line := range []string{
			"zoom_1-2 a -> hide", "zoom 1-2_a -> hide", "zoom 1-2 a_-> hide", "zoom 1-2 a ->_hide", "_zoom 1-2 a -> hide", "zoom 1-2 a -> hide_",
			"zoom 1-2 _ -> hide", "zoom 1-2 a=_ -> hide", "_", "zoom 1-2 a -> draw red_3 4", "zoom 1-2 a -> draw red 3 4_",
		} {
			checkNoStyle(t, "other space", strings.ReplaceAll(line, "_", space), 1)
		}
	}
}

func TestHowLongAStyleMayBe(t *testing.T) {
	rest := func(text string, size int) string { return text + "#" + strings.Repeat("x", size-len(text)-1) }
	text := "zoom 0-10 -> hide\n"
	checkStyle(t, "exactly MaxStyle", rest(text, 4000), hides())
	checkNoStyle(t, "one more", rest(text, 4001), -1)
	checkNoStyle(t, "one newline more", rest(text, 4000)+"\n", -1)
	checkNoStyle(t, "far more", rest(text, 1<<20), -1)
	checkNoStyle(t, "too long, with a fault ahead", rest("fault\n", 4001), -1)
	checkNoStyle(t, "too long, with too many rules ahead", rest(manyLines(impl.MaxRules+1), 4001), -1)
	checkNoStyle(t, "too long, of newlines", strings.Repeat("\n", 4001), -1)
	long := func(size int) string {
		return "zoom 0-10 k=" + strings.Repeat("v", size-len("zoom 0-10 k= -> hide")) + " -> hide"
	}
	checkStyle(t, "one long value", long(4000), hides(is("k", strings.Repeat("v", 4000-len("zoom 0-10 k= -> hide")))))
	checkNoStyle(t, "one long value, and one more", long(4001), -1)
}

func TestHowManyRules(t *testing.T) {
	rules := func(count int) []impl.Rule {
		rs := make([]impl.Rule, count)
		for i := range rs {
			rs[i] = hides()
		}
		return rs
	}
	for _, count := range []int{1, 2, 99, 100} {
		checkStyle(t, "so many", manyLines(count), rules(count)...)
	}
	checkStyle(t, "100 and what means nothing", "#\n\n"+manyLines(100)+"\n#\n\n#", rules(100)...)
	checkNoStyle(t, "one more", manyLines(101), 101)
	checkNoStyle(t, "one more, without a newline", manyLines(100)+"zoom 0-0 -> hide", 101)
	checkNoStyle(t, "more", manyLines(150), 101)
	checkNoStyle(t, "one more, behind what means nothing", "#\n\n"+manyLines(50)+"\n#\n"+manyLines(50)+"\n\n"+manyLines(1), 107)
	checkNoStyle(t, "a fault as the last", manyLines(100)+"fault", 101)
	checkNoStyle(t, "a fault ahead", manyLines(99)+"fault\n"+manyLines(5), 100)
	checkNoStyle(t, "a fault behind", manyLines(101)+"fault", 101)
}

// noRules are lines that are none, by the thing that is wrong with them.
func noRules() map[string][]string {
	return map[string][]string{
		"another first word": {
			"zooms 0-1 -> hide", "Zoom 0-1 -> hide", "zoo 0-1 -> hide", "0-1 -> hide", "-> hide", "hide", "draw red 1 1", "x", "zoom", "zoom0-1 -> hide",
			"a zoom 0-1 -> hide", "zoom zoom 0-1 -> hide", "; zoom 0-1 -> hide", "-> zoom 0-1 hide", "hide -> zoom 0-1",
		},
		"no numbers": {
			"zoom -> hide", "zoom 0 -> hide", "zoom 0- -> hide", "zoom -1 -> hide", "zoom - -> hide", "zoom 0 - 1 -> hide", "zoom 0- 1 -> hide", "zoom 0 -1 -> hide",
			"zoom 0-1-2 -> hide", "zoom 0--1 -> hide", "zoom -0-1 -> hide", "zoom +0-1 -> hide", "zoom 0-+1 -> hide", "zoom a-b -> hide", "zoom 0-b -> hide", "zoom a-1 -> hide",
			"zoom 0x1-2 -> hide", "zoom 1_0-10 -> hide", "zoom 0..1 -> hide", "zoom 0:1 -> hide", "zoom 0-1. -> hide", "zoom 0.0-1 -> hide", "zoom \u0661-2 -> hide", "zoom 0\u20131 -> hide",
			"zoom 00000000000-1 -> hide", "zoom 0-00000000001 -> hide", "zoom 0-1e0 -> hide", "zoom a 0-1 -> hide", "zoom , -> hide",
		},
		"numbers that are too great": {
			"zoom 0-11 -> hide", "zoom 11-11 -> hide", "zoom 0-100 -> hide", "zoom 0-9999999999 -> hide", "zoom 9999999999-9999999999 -> hide", "zoom 4294967296-4294967297 -> hide",
			"zoom 0-18446744073709551617 -> hide", "zoom 18446744073709551616-1 -> hide", "zoom 0-4294967297 -> hide", "zoom 11-1 -> hide",
		},
		"A above B":       {"zoom 1-0 -> hide", "zoom 10-9 -> hide", "zoom 9-0 a -> hide", "zoom 10-0 -> draw red 1 1", "zoom 0010-9 -> hide"},
		"no ->":           {"zoom 0-1", "zoom 0-1 hide", "zoom 0-1 draw red 1 1", "zoom 0-1 a b", "zoom 0-1 a=->", "zoom 0-1 - > hide", "zoom 0-1 => hide", "zoom 0-1 a-> hide", "zoom 0-1 ->hide", "zoom 0-1-> hide", "zoom 0-1 --> hide", "zoom 0-1 ->> hide", "zoom 0-1 > hide", "zoom 0-1 - hide", "zoom 0-1 \u2192 hide"},
		"nothing behind":  {"zoom 0-1 ->", "zoom 0-1 -> ", "zoom 0-1 a ->   ", "zoom 0-1 a b=c ->"},
		"something else":  {"zoom 0-1 -> show", "zoom 0-1 -> Hide", "zoom 0-1 -> hidden", "zoom 0-1 -> hid", "zoom 0-1 -> Draw red 1 1", "zoom 0-1 -> draws red 1 1", "zoom 0-1 -> red 1 1", "zoom 0-1 -> hide=1", "zoom 0-1 -> !hide", "zoom 0-1 -> -> hide", "zoom 0-1 -> -> draw red 1 1", "zoom 0-1 -> red draw 1 1"},
		"too much behind": {"zoom 0-1 -> hide hide", "zoom 0-1 -> hide a", "zoom 0-1 -> hide ->", "zoom 0-1 -> hide red 1 1", "zoom 0-1 -> draw red 1 1 1", "zoom 0-1 -> draw red 1 1 hide", "zoom 0-1 -> draw red 1 1 a=b", "zoom 0-1 -> draw red 1 1 ->", "zoom 0-1 -> draw red red 1 1", "zoom 0-1 -> hide #", "zoom 0-1 -> draw red 1 1 # all", "zoom 0-1 -> hide -> hide", "zoom 0-1 -> hide 0"},
		"too little":      {"zoom 0-1 -> draw", "zoom 0-1 -> draw red", "zoom 0-1 -> draw red 1", "zoom 0-1 -> draw 1 1", "zoom 0-1 -> draw 1"},
		"a colour that is no word": {
			"zoom 0-1 -> draw Red 1 1", "zoom 0-1 -> draw re-d 1 1", "zoom 0-1 -> draw #f00 1 1", "zoom 0-1 -> draw r.d 1 1", "zoom 0-1 -> draw r\u00f6d 1 1", "zoom 0-1 -> draw a=b 1 1",
			"zoom 0-1 -> draw !red 1 1", "zoom 0-1 -> draw -> 1 1", "zoom 0-1 -> draw " + strings.Repeat("c", 41) + " 1 1", "zoom 0-1 -> draw r\x00d 1 1", "zoom 0-1 -> draw red, 1 1",
		},
		"a width or layer that can't be": {
			"zoom 0-1 -> draw red 1001 1", "zoom 0-1 -> draw red 1 1001", "zoom 0-1 -> draw red -1 1", "zoom 0-1 -> draw red 1 -1", "zoom 0-1 -> draw red +1 1", "zoom 0-1 -> draw red 1 +1",
			"zoom 0-1 -> draw red a 1", "zoom 0-1 -> draw red 1 a", "zoom 0-1 -> draw red 1. 1", "zoom 0-1 -> draw red 1 1.5", "zoom 0-1 -> draw red 00000000001 1", "zoom 0-1 -> draw red 1 00000000001",
			"zoom 0-1 -> draw red 9999999999 1", "zoom 0-1 -> draw red 1 9999999999", "zoom 0-1 -> draw red 18446744073709551617 1", "zoom 0-1 -> draw red 1 18446744073709551617",
			"zoom 0-1 -> draw red 4294967297 1", "zoom 0-1 -> draw red 1 4294967297", "zoom 0-1 -> draw red 0x1 1", "zoom 0-1 -> draw red 1 1_0", "zoom 0-1 -> draw red 1-1 1", "zoom 0-1 -> draw red 1,1 1",
		},
		"tests that are none": {
			"zoom 0-1 A -> hide", "zoom 0-1 a-b -> hide", "zoom 0-1 a.b=c -> hide", "zoom 0-1 A=b -> hide", "zoom 0-1 A!=b -> hide", "zoom 0-1 !A -> hide",
			"zoom 0-1 = -> hide", "zoom 0-1 =b -> hide", "zoom 0-1 != -> hide", "zoom 0-1 !=b -> hide", "zoom 0-1 ! -> hide", "zoom 0-1 !! -> hide", "zoom 0-1 !!a -> hide",
			"zoom 0-1 !a=b -> hide", "zoom 0-1 !a!=b -> hide", "zoom 0-1 a!!=b -> hide", "zoom 0-1 a! -> hide", "zoom 0-1 a!b -> hide", "zoom 0-1 a!b=c -> hide", "zoom 0-1 !a! -> hide",
			"zoom 0-1 a<b -> hide", "zoom 0-1 # -> hide", "zoom 0-1 a # -> hide", "zoom 0-1 a, b -> hide", "zoom 0-1 \"a\" -> hide", "zoom 0-1 a\x00 -> hide", "zoom 0-1 stra\u00dfe -> hide",
			"zoom 0-1 " + strings.Repeat("k", 41) + " -> hide", "zoom 0-1 !" + strings.Repeat("k", 41) + " -> hide", "zoom 0-1 " + strings.Repeat("k", 41) + "=v -> hide", "zoom 0-1 " + strings.Repeat("k", 41) + "!=v -> hide",
			"zoom 0-1 a=\x7f -> hide", "zoom 0-1 a=b\x80 -> hide", "zoom 0-1 a!=\xff -> hide", "zoom 0-1 a=\u00e9 -> hide", "zoom 0-1 a!=b\x1f -> hide",
			"zoom 0-1 A b -> hide", "zoom 0-1 b A -> hide", "zoom 0-1 b A c -> hide", "zoom 0-1 - -> hide", "zoom 0-1 > -> hide",
		},
	}
}

func TestLinesThatAreNoRules(t *testing.T) {
	for name, lines := range noRules() {
		for _, line := range lines {
			checkNoStyle(t, name, line, 1)
			checkNoStyle(t, name, line+"\n", 1)
			checkNoStyle(t, name, "\n# all\nzoom 0-10 -> hide\n"+line+"\nzoom 0-10 -> hide", 4)
			checkNoStyle(t, name, "zoom 0-10 -> hide\n\n\n"+line, 4)
			// What stands behind it has no part in it.
			checkNoStyle(t, name, line+"\nfault\n\n#", 1)
			checkStyle(t, name+", as a remark", "#"+line+"\nzoom 0-10 -> hide", hides())
		}
	}
}

func TestWidthsAndLayers(t *testing.T) {
	for text, n := range map[string]int64{"0": 0, "1": 1, "9": 9, "1000": 1000, "999": 999, "00": 0, "007": 7, "0001000": 1000, "0000000000": 0, "0000001000": 1000} {
		checkStyle(t, "a width", "zoom 0-10 -> draw red "+text+" 5", draws("red", n, 5))
		checkStyle(t, "a layer", "zoom 0-10 -> draw red 5 "+text, draws("red", 5, n))
	}
	for _, text := range []string{"1001", "0000001001", "10000", "1000000000", "00000000000", "00000001000", ""} {
		checkNoStyle(t, "a width", "zoom 0-10 -> draw red "+text+" 5", 1)
		checkNoStyle(t, "a layer", "zoom 0-10 -> draw red 5 "+text, 1)
	}
	checkStyle(t, "zooms with noughts ahead", "zoom 0000000003-0000000010 -> hide", zoomed(3, 10, hides()))
	checkStyle(t, "zooms with noughts ahead", "zoom 00-010 -> hide", hides())
	for text, colour := range map[string]string{"0": "0", ":": ":", "_": "_", "draw": "draw", "hide": "hide", "zoom": "zoom", "40": "40"} {
		checkStyle(t, "a colour", "zoom 0-10 -> draw "+text+" 1 1", draws(colour, 1, 1))
	}
	long := strings.Repeat("c", impl.MaxWord)
	checkStyle(t, "the longest colour", "zoom 0-10 -> draw "+long+" 1 1", draws(long, 1, 1))
}

func TestTestsInStyles(t *testing.T) {
	long := strings.Repeat("k", impl.MaxWord)
	for text, want := range map[string]impl.Test{
		"a=b": is("a", "b"), "a=": is("a", ""), "a==": is("a", "="), "a=b=c": is("a", "b=c"), "a=!": is("a", "!"), "a=!b": is("a", "!b"), "a=b!=c": is("a", "b!=c"), "a=!=": is("a", "!="),
		"a!=b": isNot("a", "b"), "a!=": isNot("a", ""), "a!==": isNot("a", "="), "a!=b=c": isNot("a", "b=c"), "a!=!": isNot("a", "!"), "a!=!b": isNot("a", "!b"), "a!=!=": isNot("a", "!="),
		"a": has("a"), "0": has("0"), ":_:": has(":_:"), "zoom": has("zoom"), "draw": has("draw"), "hide": has("hide"), "0:1": has("0:1"),
		"!a": lacks("a"), "!0": lacks("0"), "!_": lacks("_"), "!hide": lacks("hide"),
		"a=->": is("a", "->"), "a!=->": isNot("a", "->"), "a=#": is("a", "#"), "a=~": is("a", "~"), "a=A": is("a", "A"), "highway=main": is("highway", "main"),
		long: has(long), "!" + long: lacks(long), long + "=b": is(long, "b"), long + "!=b": isNot(long, "b"),
		"a=" + strings.Repeat("v", 101): is("a", strings.Repeat("v", 101)),
	} {
		checkStyle(t, "a test", "zoom 0-10 "+text+" -> hide", hides(want))
		checkStyle(t, "a test", "zoom 0-10 "+text+" -> draw red 1 2", draws("red", 1, 2, want))
		checkStyle(t, "behind another", "zoom 0-10 x=y "+text+" -> hide", hides(is("x", "y"), want))
		checkStyle(t, "twice", "zoom 0-10 "+text+" "+text+" -> hide", hides(want, want))
		checkStyle(t, "ahead of another", "zoom 0-10 "+text+" !x -> hide", hides(want, lacks("x")))
	}
	var many []impl.Test
	for range 1000 {
		many = append(many, has("a"))
	}
	checkStyle(t, "many", "zoom 0-10 "+strings.Repeat("a ", 1000)+"-> hide", hides(many...))
}

func TestBytesInStyles(t *testing.T) {
	const inWords = "abcdefghijklmnopqrstuvwxyz0123456789:_"
	for b := range 256 {
		one := string([]byte{byte(b)})
		for _, word := range []string{one, one + "ab", "a" + one + "b", "ab" + one} {
			inWord := strings.Contains(inWords, one)
			for text, want := range map[string]impl.Rule{"WORD": draws("red", 1, 1, has(word)), "!WORD": draws("red", 1, 1, lacks(word)), "WORD=v": draws("red", 1, 1, is(word, "v")), "WORD!=v": draws("red", 1, 1, isNot(word, "v"))} {
				// Some bytes make another test of it, or part it.
				if strings.Contains("!= \n", one) {
					continue
				}
				text = "zoom 0-10 " + strings.Replace(text, "WORD", word, 1) + " -> draw red 1 1"
				if inWord {
					checkStyle(t, "a word", text, want)
				} else {
					checkNoStyle(t, "a word", text, 1)
				}
			}
			if text := "zoom 0-10 -> draw " + word + " 1 1"; inWord {
				checkStyle(t, "a colour", text, draws(word, 1, 1))
			} else if word != " " && one != "\n" && word != " ab" && word != "ab " {
				checkNoStyle(t, "a colour", text, 1)
			}
			if one == " " || one == "\n" {
				continue
			}
			text, other := "zoom 0-10 k="+word+" -> hide", "zoom 0-10 k!="+word+" -> hide"
			if 33 <= b && b <= 126 {
				checkStyle(t, "a value", text, hides(is("k", word)))
				checkStyle(t, "a value", other, hides(isNot("k", word)))
			} else {
				checkNoStyle(t, "a value", text, 1)
				checkNoStyle(t, "a value", other, 1)
			}
		}
	}
}

// Texts of the words that styles are made of, and of words that are nearly such.
func TestStylesAgainstTheWords(t *testing.T) {
	tell := numbers(84)
	faults := map[bool]int{}
	for range 60000 {
		var text strings.Builder
		for range 1 + tell.Intn(3) {
			text.WriteString(strings.TrimSuffix(ruleShown(someRule(tell)), "\n"))
			text.WriteString(pick(tell, "\n", "\n", "\n\n", "\n#x\n", "", " "))
		}
		style := text.String()
		for range tell.Intn(4) {
			i := tell.Intn(len(style))
			style = style[:i] + pick(tell, "", " ", "  ", "\n", "#", "-", "->", "=", "!", "0", "1", "9", "a", "A", "\t", "\x7f", "\xff", "draw ", " hide", "zoom ") + style[i+tell.Intn(2):]
			if style == "" {
				break
			}
		}
		want, fault := styleIn(style)
		faults[fault == 0]++
		if fault == 0 {
			checkStyle(t, "by chance", style, want...)
		} else {
			checkNoStyle(t, "by chance", style, fault)
		}
		if t.Failed() {
			t.FailNow()
		}
	}
	if faults[true] < 10000 || faults[false] < 10000 {
		t.Error("too few of a kind:", faults)
	}
}
