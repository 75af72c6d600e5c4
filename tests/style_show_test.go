package tests

import (
	"math"
	"strings"
	"testing"

	"loop.example/g00024/impl"
)

// Promise 7, of ShowStyle: what is shown is read as it.

func TestShowStyle(t *testing.T) {
	checkShown(t, "no rules", "")
	checkShown(t, "no rules", "", []impl.Rule{}...)
	checkShown(t, "one", "zoom 0-10 -> draw grey 1 0\n", draws("grey", 1, 0))
	checkShown(t, "hiding", "zoom 0-10 -> hide\n", hides())
	checkShown(t, "zooms", "zoom 3-3 -> hide\n", zoomed(3, 3, hides()))
	checkShown(t, "the greatest", "zoom 10-10 -> draw red 1000 1000\n", zoomed(10, 10, draws("red", 1000, 1000)))
	checkShown(t, "the least", "zoom 0-0 -> draw r 0 0\n", zoomed(0, 0, draws("r", 0, 0)))
	checkShown(t, "tests", "zoom 0-10 a=b a= c!=d c!= e !f -> hide\n", hides(is("a", "b"), is("a", ""), isNot("c", "d"), isNot("c", ""), has("e"), lacks("f")))
	checkShown(t, "signs in values", "zoom 0-10 a==b a=!b a=-> a!==b a!=!b -> draw red 1 1\n",
		draws("red", 1, 1, is("a", "=b"), is("a", "!b"), is("a", "->"), isNot("a", "=b"), isNot("a", "!b")))
	checkShown(t, "several", "zoom 0-10 -> hide\nzoom 1-2 a -> draw red 3 4\nzoom 0-10 -> hide\n", hides(), zoomed(1, 2, draws("red", 3, 4, has("a"))), hides())
	checkShown(t, "an empty list", "zoom 0-10 -> hide\n", impl.Rule{High: 10, Tests: []impl.Test{}, Hide: true})
}

func TestShownAndReadAgain(t *testing.T) {
	tell := numbers(85)
	for range 20000 {
		rs := someRules(tell, 6)
		text := styleShown(rs)
		checkShown(t, "by chance", text, rs...)
		checkStyle(t, "by chance", text, rs...)
		if t.Failed() {
			t.FailNow()
		}
	}
}

// What was read is shown with as few blanks as can be, without noughts ahead and without remarks.
func TestReadAndShownAgain(t *testing.T) {
	rs, _ := impl.ReadStyle("# all\n\n   zoom   00-0010   a=b   !c  ->   draw   red  0007   00  \n#\nzoom 1-2->\n")
	if len(rs) > 0 {
		t.Error(rs)
	}
	rs, fault := impl.ReadStyle("# all\n\n   zoom   00-0010   a=b   !c  ->   draw   red  0007   00  \n#\n zoom 1-2  ->  hide ")
	if fault != 0 {
		t.Fatal(fault)
	}
	checkShown(t, "again", "zoom 0-10 a=b !c -> draw red 7 0\nzoom 1-2 -> hide\n", rs...)
}

// badRules has each field that can't be, one by one, in a rule that could be otherwise.
func badRules() map[string]impl.Rule {
	all := map[string]impl.Rule{"the zero value": {}}
	for _, n := range []int64{-1, 11, math.MinInt64, math.MaxInt64, -11} {
		all["Low "+short(n)] = zoomed(n, 10, hides())
		all["High "+short(n)] = zoomed(3, n, hides())
		all["both "+short(n)] = zoomed(n, n, hides())
	}
	all["Low above High"] = zoomed(5, 4, hides())
	for _, n := range []int64{-1, 1001, math.MinInt64, math.MaxInt64, -1000} {
		all["Width "+short(n)] = draws("red", n, 1)
		all["Layer "+short(n)] = draws("red", 1, n)
	}
	for _, word := range []string{
		"", " ", "Red", "re d", "red ", " red", "red\n", "\nred", "#", "r\x00d", "a=b", "!a", "->", "r-d", "r\u00f6d", strings.Repeat("c", 41), "red 1 1\n#", "red 1 1\nzoom 0-10 -> draw red",
		"red 1", "1 1\nzoom 0-10 -> hide\n", "\t", "red\t", "draw red",
	} {
		all["Colour "+word] = draws(word, 1, 1)
		all["Has "+word] = hides(has(word))
		all["Lacks "+word] = hides(lacks(word))
		all["Is "+word] = hides(is(word, "v"))
		all["Not "+word] = hides(isNot(word, "v"))
	}
	for _, value := range []string{" ", "a b", "a ", " a", "a\n", "\na", "\t", "\x7f", "\x80", "\xff", "\x00", "\u00e9", "v -> hide\n#", "v -> hide\nzoom 0-10 k=v", "v !b"} {
		all["is "+value] = hides(is("k", value))
		all["is not "+value] = hides(isNot("k", value))
	}
	for _, op := range []int64{0, 5, -1, math.MinInt64, math.MaxInt64} {
		all["Op "+short(op)] = hides(impl.Test{Key: "k", Op: op})
		all["Op with a value "+short(op)] = hides(impl.Test{Key: "k", Op: op, Value: "v"})
	}
	for _, op := range []int64{impl.TestHas, impl.TestLacks} {
		for _, value := range []string{"v", "=", "=v", "!", " ", "\n"} {
			all["a value that is not taken "+short(op)+value] = hides(impl.Test{Key: "k", Op: op, Value: value})
		}
	}
	all["hiding with a colour"] = impl.Rule{High: 10, Hide: true, Colour: "red"}
	all["hiding with a width"] = impl.Rule{High: 10, Hide: true, Width: 1}
	all["hiding with a layer"] = impl.Rule{High: 10, Hide: true, Layer: 1}
	all["hiding with all"] = impl.Rule{High: 10, Hide: true, Colour: "red", Width: 1, Layer: 1}
	all["hiding with a width that can't be"] = impl.Rule{High: 10, Hide: true, Width: -1}
	for i := range 3 {
		tests := []impl.Test{has("a"), is("b", "c"), lacks("d")}
		tests[i].Key += "!"
		all["one test of three "+short(i)] = draws("red", 1, 1, tests...)
	}
	return all
}

func TestStylesThatAreNotShown(t *testing.T) {
	for name, bad := range badRules() {
		if ruleCanBe(bad) {
			t.Error(name, "can be")
		}
		checkShown(t, name, "", bad)
		checkShown(t, name+", ahead", "", bad, hides(), draws("red", 1, 1))
		checkShown(t, name+", between", "", hides(), bad, draws("red", 1, 1))
		checkShown(t, name+", behind", "", draws("red", 1, 1), hides(), bad)
	}
}

func TestHowMuchIsShown(t *testing.T) {
	if got := impl.ShowStyle(manyRules(impl.MaxRules)); strings.Count(got, "\n") != 100 || got != styleShown(manyRules(100)) {
		t.Errorf("%q", got)
	}
	checkShown(t, "one rule more", "", manyRules(impl.MaxRules+1)...)
	rules := make([]impl.Rule, impl.MaxRules+1)
	for i := range rules {
		rules[i] = hides()
	}
	checkShown(t, "so many", manyLines(100), rules[:100]...)
	checkShown(t, "one more", "", rules...)
	checkShown(t, "far more", "", make([]impl.Rule, 1<<20)...)
	// With a Value that makes the text so many bytes.
	long := func(size int) impl.Rule {
		return hides(is("k", strings.Repeat("v", size-len("zoom 0-10 k= -> hide\n"))))
	}
	for _, size := range []int{100, 3999, 4000} {
		checkShown(t, "so long", ruleShown(long(size)), long(size))
		if got := impl.ShowStyle([]impl.Rule{long(size)}); len(got) != size {
			t.Error(size, len(got))
		}
	}
	// The newline behind the last one counts.
	checkShown(t, "one byte more", "", long(4001))
	checkShown(t, "far longer", "", long(1<<20))
	checkShown(t, "a long colour", "", draws(strings.Repeat("c", 1<<20), 1, 1))
	checkShown(t, "one byte more in two", "", hides(), long(4001-len("zoom 0-10 -> hide\n")))
	checkShown(t, "as long in two", "zoom 0-10 -> hide\n"+ruleShown(long(4000-len("zoom 0-10 -> hide\n"))), hides(), long(4000-len("zoom 0-10 -> hide\n")))
	// The bound is passed in each part of the last line.
	for size := 3950; size <= 4001; size++ {
		for _, last := range []impl.Rule{hides(), draws("red", 1, 1), hides(has("a"), is("b", "c"), lacks("d"))} {
			want := ruleShown(long(size)) + ruleShown(last)
			if len(want) > 4000 {
				want = ""
			}
			checkShown(t, "at the bound", want, long(size), last)
			checkShown(t, "beyond the bound", "", long(size), last, last, last, last)
		}
	}
	many := make([]impl.Test, 1<<20)
	for i := range many {
		many[i] = is("k", strings.Repeat("v", 10))
	}
	checkShown(t, "far more tests", "", hides(many...))
	great := is("k", strings.Repeat("v", 1<<20))
	for i := range many {
		many[i] = great
	}
	checkShown(t, "more than any memory", "", hides(many...))
}

func TestShowStyleAgainstTheWords(t *testing.T) {
	tell := numbers(86)
	shown := 0
	for range 30000 {
		rs := someRules(tell, 3)
		for i := range rs {
			if tell.Intn(4) == 0 {
				rs[i] = shakenRule(tell, rs[i])
			}
		}
		want := styleShown(rs)
		shown += count(want != "")
		checkShown(t, "by chance", want, rs...)
		if t.Failed() {
			t.FailNow()
		}
	}
	if shown < 5000 || shown > 25000 {
		t.Error("too few of a kind:", shown)
	}
}
