package tests

import (
	"math"
	"strings"
	"testing"

	"loop.example/g00024/impl"
)

// Promise 17, of what a step is called, and of what to do when it was not followed.

func TestSayEachWind(t *testing.T) {
	for wind, word := range map[int64]string{
		0: "straight", 1: "straight", 2: "left", 3: "left", 4: "back", 5: "right", 6: "right", 7: "straight", 8: "back", 9: "go",
	} {
		checkSay(t, impl.Turning{Wind: wind}, word+", 0")
		checkSay(t, turning(wind, 0, "Mill Lane", 3, 120), word+" on Mill Lane, 120")
		checkSay(t, turning(wind, 1, "Mill Lane", 3, 120), word+" 2. on Mill Lane, 120")
		checkSay(t, turning(wind, 2, "", 3, 120), word+" 3., 120")
		checkSay(t, turning(wind, 8000, "", 3, 120), word+" 8001., 120")
		checkSay(t, turning(wind, 8001, "", 3, 120), "")
		checkSay(t, turning(wind, -1, "Mill Lane", 3, 120), "")
		checkSay(t, turning(wind, 0, "Mill Lane", 3, -1), "")
	}
	for _, wind := range []int64{-1, 10, -2, 11, 16, math.MinInt64, math.MaxInt64} {
		checkSay(t, impl.Turning{Wind: wind}, "")
		checkSay(t, turning(wind, 1, "Mill Lane", 3, 120), "")
	}
}

func TestSayNumbers(t *testing.T) {
	for which, text := range map[int64]string{0: "left", 1: "left 2.", 2: "left 3.", 9: "left 10.", 7999: "left 8000.", 8000: "left 8001."} {
		checkSay(t, turning(2, which, "", 1, 7), text+", 7")
	}
	for _, which := range []int64{-1, -2, 8001, math.MinInt64, math.MaxInt64} {
		checkSay(t, turning(2, which, "", 1, 7), "")
	}
	for length, text := range map[int64]string{0: "0", 1: "1", 10: "10", 8000000000000: "8000000000000", math.MaxInt64: "9223372036854775807"} {
		checkSay(t, turning(6, 0, "", 1, length), "right, "+text)
	}
	for _, length := range []int64{-1, -2, math.MinInt64} {
		checkSay(t, turning(6, 0, "", 1, length), "")
	}
	// Roads is not said.
	for _, roads := range strange() {
		checkSay(t, turning(6, 0, "A", roads, 4), "right on A, 4")
	}
}

func TestSayNames(t *testing.T) {
	for _, name := range append(strangeTexts(), "on", ", 5", "a  b ", "9") {
		want := "go on " + name + ", 5"
		if name == "" {
			want = "go, 5"
		}
		checkSay(t, turning(9, 0, name, 1, 5), want)
	}
	checkSay(t, turning(9, 4, strings.Repeat("\xff", 1000), 1, 5), "go 5. on "+strings.Repeat("\xff", 1000)+", 5")
}

func TestAgain(t *testing.T) {
	// From 0 by 1 to 2, and one drives on to 3 or back, but not from 2 to 4.
	g := lane(5, 10)
	steps := impl.Guide(g, []int64{0, 2, 4})
	best := func(s int64, to int64) impl.Path { return impl.BestPath(g, s, to) }
	checkAgain(t, "not driven yet", g, steps, 0, 0, 3, impl.Path{Found: true, Roads: []int64{0, 2, 4}, Time: 30, Length: 30000 + 1 + 102 + 203})
	checkAgain(t, "behind the first", g, steps, 0, 1, 3, impl.Path{Found: true, Roads: []int64{2, 4}, Time: 20, Length: 20000 + 102 + 203})
	checkAgain(t, "behind the second", g, steps, 0, 2, 0, impl.Path{Found: true, Roads: []int64{3, 1}, Time: 20, Length: 20000 + 201 + 100})
	checkAgain(t, "behind all", g, steps, 0, 3, 4, impl.Path{Found: true, Roads: []int64{6}, Time: 10, Length: 10304})
	for _, after := range []int64{3, 4, 5, impl.MaxRoads, impl.MaxRoads + 1, math.MaxInt64} {
		for to := range int64(5) {
			checkAgain(t, "behind all", g, steps, 0, after, to, best(3, to))
		}
	}
	for i, s := range []int64{0, 1, 2, 3} {
		checkAgain(t, "where one is", g, steps, 0, int64(i), s, impl.Path{Found: true})
		checkAgain(t, "without steps", g, nil, s, int64(i), 4, best(s, 4))
		checkAgain(t, "without steps, where one is", g, nil, s, int64(i), s, impl.Path{Found: true})
	}
	for _, after := range []int64{-1, -2, math.MinInt64} {
		checkAgain(t, "below 0", g, steps, 0, after, 3, impl.Path{})
		checkAgain(t, "below 0, without steps", g, nil, 0, after, 0, impl.Path{})
	}
}

func TestAgainWhereSomethingCantBe(t *testing.T) {
	g := lane(5, 10)
	steps := impl.Guide(g, []int64{0, 2, 4})
	for _, bad := range []int64{-1, 5, 6, math.MinInt64, math.MaxInt64} {
		checkAgain(t, "from no place", g, nil, bad, 0, 0, impl.Path{})
		checkAgain(t, "to no place", g, steps, 0, 1, bad, impl.Path{})
		checkAgain(t, "from no place to it", g, nil, bad, 0, bad, impl.Path{})
	}
	// Steps that can't be followed, even if only behind what was driven.
	for after := range int64(5) {
		checkAgain(t, "a step too many", g, append(impl.Guide(g, []int64{0, 2, 4}), take(2, 0, 1)), 0, after, 3, impl.Path{})
		checkAgain(t, "a first step that is none", g, []impl.Turning{take(0, 0, 1)}, 0, after, 3, impl.Path{})
		checkAgain(t, "a step without Roads", g, []impl.Turning{take(9, 0, 0)}, 0, after, 3, impl.Path{})
	}
	round := []impl.Turning{take(9, 0, impl.MaxRoads), take(3, 0, 1)}
	checkAgain(t, "too many Roads", triangle(), round, 0, 1, 0, impl.Path{})
	checkAgain(t, "as many as may be", triangle(), round[:1], 0, impl.MaxRoads, 2, impl.Path{Found: true})
	for _, bad := range badGraphs() {
		checkAgain(t, bad.name, bad.graph, nil, 0, 0, 0, impl.Path{})
		checkAgain(t, bad.name, bad.graph, []impl.Turning{take(9, 0, 1)}, 0, 1, 1, impl.Path{})
	}
	// Where no way leads there, and what was forbidden behind the Road that one came by is allowed from where one is.
	g = branch(0, 0, 2)
	checkAgain(t, "no way back", g, []impl.Turning{take(9, 0, 2)}, 1, 2, 1, impl.Path{})
	checkAgain(t, "a way yet", g, []impl.Turning{take(9, 0, 2)}, 1, 1, 3, impl.Path{Found: true, Roads: []int64{2}, Time: 1, Length: 102})
	g = withBans(g, ban(0, 2))
	checkAgain(t, "a forbidden turn", g, []impl.Turning{take(9, 0, 2)}, 1, 1, 3, impl.Path{Found: true, Roads: []int64{2}, Time: 1, Length: 102})
	checkAgain(t, "a forbidden turn further on", g, nil, 1, 0, 3, impl.Path{})
}
