package tests

import (
	"math"
	"slices"
	"strconv"
	"strings"
	"testing"

	"loop.example/g00024/impl"
)

// Promise 16: a name finds what has it.

func TestFind(t *testing.T) {
	m := district()
	checkFind(t, "both kinds", m, "mill", 50, nodeHit(1, 10, 0, 0), wayHit(3, 9, 40, 0), wayHit(8, 9, 90, 0), nodeHit(3, 8, 40, 40))
	checkFind(t, "two words", m, "mill lane", 50, wayHit(3, 20, 40, 0), wayHit(8, 20, 90, 0), nodeHit(1, 7, 0, 0), nodeHit(3, 5, 40, 40))
	checkFind(t, "short words", m, "N Station Road", 50, wayHit(5, 30, 0, 40), nodeHit(3, 2, 40, 40))
	checkFind(t, "a beginning", m, "gat", 50, nodeHit(8, 6, 90, 0))
	checkFind(t, "a slip", m, "gates", 50, nodeHit(8, 4, 90, 0))
	checkFind(t, "nothing like it", m, "harbour", 50)
	// A shop's tag and the names of areas are none of its business.
	checkFind(t, "another tag", m, "tea", 50)
	checkFind(t, "an area", impl.Map{Nodes: m.Nodes[1:7], Ways: []impl.Way{way(3, 2, 4), way(5, 2, 5)}, Areas: m.Areas[:1]}, "old", 50, nodeHit(3, 8, 40, 40))
}

func TestFindAtMostSoMany(t *testing.T) {
	m := signs(slices.Repeat([]string{"Mill"}, 60)...)
	var all []impl.Hit
	for i := range int64(60) {
		all = append(all, nodeHit(i+1, 10, 10*i, 0))
	}
	for most := range int64(51) {
		checkFind(t, "at most "+strconv.FormatInt(most, 10), m, "mill", most, all[:most]...)
	}
	for _, most := range []int64{math.MinInt64, -50, -1, 51, 52, 60, math.MaxInt64} {
		checkFind(t, "most can't be", m, "mill", most)
	}
	// The greatest are told, wherever they stand.
	m.Nodes[57].Tags = tags("name", "Mill Lane")
	checkFind(t, "the last but two", m, "mill lane", 1, nodeHit(58, 20, 570, 0))
	checkFind(t, "the last but two", m, "mill lane", 2, nodeHit(58, 20, 570, 0), nodeHit(1, 7, 0, 0))
	checkFind(t, "fewer than most", district(), "gate", 50, nodeHit(8, 10, 90, 0))
	checkFind(t, "one", district(), "gate", 1, nodeHit(8, 10, 90, 0))
	checkFind(t, "none", district(), "gate", 0)
}

func TestFindInMapsThatCannotBe(t *testing.T) {
	eachFault(func(name string, m impl.Map) {
		checkFind(t, name, m, "mill", 50)
	})
	checkFind(t, "no map", impl.Map{}, "mill", 50)
	m := district()
	slices.Reverse(m.Nodes)
	checkFind(t, "nodes the other way round", m, "mill", 50)
	m = district()
	slices.Reverse(m.Ways)
	checkFind(t, "ways the other way round", m, "mill", 50)
	m = district()
	m.Ways[0].Tags = tags("highway", "street", "name", "")
	checkFind(t, "an empty name", m, "mill", 50)
	m = district()
	m.Areas[0].Parts = nil
	checkFind(t, "an area without Parts", m, "mill", 50)
}

func TestFindWithoutWords(t *testing.T) {
	for _, text := range []string{"", " ", "--", "\u00e9", "\xff"} {
		checkFind(t, "no words", district(), text, 50)
		checkFind(t, "no words in the name either", signs("--", " "), text, 50)
	}
	// Such a name has nothing that could be found, but is a name.
	m := signs("--", "Mill", " ")
	checkFind(t, "names without words", m, "--", 50)
	checkFind(t, "names without words", m, "mill", 50, nodeHit(2, 10, 10, 0))
}

func TestFindByLongTexts(t *testing.T) {
	m := signs("Mill", strings.Repeat("m", 100), strings.Repeat("m ", 50))
	mill := "mill"
	checkFind(t, "exactly MaxValue", m, mill+strings.Repeat(" ", 96), 50, nodeHit(1, 10, 0, 0))
	checkFind(t, "one more", m, mill+strings.Repeat(" ", 97), 50)
	checkFind(t, "far more", m, strings.Repeat(mill+" ", 1<<20), 50)
	checkFind(t, "one long word", m, strings.Repeat("m", 100), 50, nodeHit(2, 10, 10, 0))
	checkFind(t, "one longer word", m, strings.Repeat("m", 101), 50)
	checkFind(t, "its beginning", m, strings.Repeat("m", 99), 50, nodeHit(2, 6, 10, 0))
	checkFind(t, "fifty words", m, strings.Repeat("m ", 50), 50, nodeHit(3, 500, 20, 0))
	checkFind(t, "forty of them", m, strings.Repeat("m ", 40), 50, nodeHit(3, 390, 20, 0))
}

func TestNodesStandAheadOfWays(t *testing.T) {
	m := alleys("Mill", "Gate", "Mill")
	m.Nodes = append(m.Nodes, node(9, 70, 70, "name", "Mill"), node(12, 80, 80, "name", "Mill"))
	checkFind(t, "greater Ids", m, "mill", 50, nodeHit(9, 10, 70, 70), nodeHit(12, 10, 80, 80), wayHit(1, 10, 0, 5), wayHit(3, 10, 20, 5))
	// Node 3 and way 3 have the same Id.
	m.Nodes[1].Tags = tags("name", "Mill")
	m.Nodes[2].Tags = tags("name", "mill.")
	checkFind(t, "the same Id", m, "mill", 50, nodeHit(3, 10, 0, 5), nodeHit(4, 10, 10, 0), nodeHit(9, 10, 70, 70), nodeHit(12, 10, 80, 80), wayHit(1, 10, 0, 5), wayHit(3, 10, 20, 5))
	checkFind(t, "the first three", m, "mill", 3, nodeHit(3, 10, 0, 5), nodeHit(4, 10, 10, 0), nodeHit(9, 10, 70, 70))
	checkFind(t, "the first five", m, "mill", 5, nodeHit(3, 10, 0, 5), nodeHit(4, 10, 10, 0), nodeHit(9, 10, 70, 70), nodeHit(12, 10, 80, 80), wayHit(1, 10, 0, 5))
	// A greater Score stands ahead of all that.
	m.Ways[2].Tags = tags("name", "Mill Gate")
	checkFind(t, "the greater Score", m, "mill gate", 3, wayHit(3, 20, 20, 5), nodeHit(3, 7, 0, 5), nodeHit(4, 7, 10, 0))
}

func TestWaysAreFoundInTheirMiddle(t *testing.T) {
	for count := 2; count <= 9; count++ {
		m := blank(12, 0, 0)
		w := impl.Way{Id: 4, Tags: tags("name", "Mill")}
		for i := range count {
			// Not in the order of their Ids.
			w.Nodes = append(w.Nodes, int64(12-i))
		}
		m.Ways = []impl.Way{w}
		checkFind(t, strconv.Itoa(count)+" points", m, "mill", 50, wayHit(4, 10, int64(11-count/2), 0))
	}
	m := blank(3, 1, 0)
	m.Ways[0] = impl.Way{Id: 1, Nodes: []int64{2, 1, 2, 3, 2}, Tags: tags("name", "Mill")}
	checkFind(t, "there and back", m, "mill", 50, wayHit(1, 10, 1, 0))
	m.Ways[0].Nodes = append(sway(1, 2, impl.MaxRow-1), 3)
	checkFind(t, "as many as may be", m, "mill", 50, wayHit(1, 10, 0, 0))
	m.Ways[0].Nodes = sway(1, 2, impl.MaxRow-1)
	checkFind(t, "one less", m, "mill", 50, wayHit(1, 10, 1, 0))
}

func TestScoresOfOneWord(t *testing.T) {
	for _, one := range []struct {
		text, name string
		score      int64
	}{
		{"mill", "mill", 10}, {"MILL", "Mill", 10}, {"a", "a", 10}, {"4", "4", 10}, {"st", "street", 10}, {"street", "St.", 10}, {"nth", "N", 10}, {"ln", "LANE", 10},
		// A beginning has at least three bytes.
		{"mil", "mill", 6}, {"mil", "millers", 6}, {"mill", "mills", 6}, {"mi", "mill", -3}, {"m", "mill", -3}, {"4", "42", -3}, {"421", "4211", 6}, {"42", "421", -3},
		{"st", "streets", 6}, {"n", "norths", 6}, {"n", "nnn", -3}, {"str", "st", 6}, {"roa", "rd", 6}, {"lan", "ln", 6},
		// The word begins the name's, not the other way round.
		{"mills", "mill", 4}, {"millers", "mill", -3}, {"ill", "mill", -3}, {"ills", "mills", 4}, {"mill", "windmill", -3},
		// Like each other are such as have four bytes both.
		{"mile", "mill", 4}, {"moll", "mill", 4}, {"mlil", "mill", -3}, {"mil", "mal", -3}, {"mall", "mal", -3}, {"mal", "mall", 6}, {"xmal", "mal", -3}, {"mal", "xmal", -3}, {"mill", "mi", -3},
		{"mills", "mill", 4}, {"mille", "mills", 4}, {"abcde", "abxye", -3}, {"1234", "1235", 4}, {"123", "124", -3}, {"roads", "rd", 4}, {"rode", "rd", -3}, {"lame", "ln", 4}, {"noth", "n", 4}, {"soth", "s", 4},
		{"mill", "gate", -3},
	} {
		checkScore(t, one.text, one.name, one.score)
		// Beside another word of both, what is not worth more than nothing is told too.
		checkScore(t, "zz "+one.text, "Zz "+one.name, 10+one.score-int64(count(one.score < 0)))
		checkScore(t, one.text+" zz", one.name+" zz", 10+one.score-int64(count(one.score < 0)))
	}
}

func TestLongWordsAreNotLikeOthers(t *testing.T) {
	word := strings.Repeat("ab", 20)
	checkScore(t, word, word, 10)
	checkScore(t, word, "x"+word[1:], 4)
	checkScore(t, word, word[1:], 4)
	checkScore(t, word, word+"c", 6)
	checkScore(t, word+"c", word, -3)
	checkScore(t, "c"+word, word, -3)
	checkScore(t, word+"c", word+"c", 10)
	checkScore(t, word+"c", word+"d", -3)
	checkScore(t, word+"c", word+"cdefg", 6)
	checkScore(t, "zz "+word+"c", "zz "+word, 6)
}

// More than one may hold: the most counts.
func TestTheBestOfSeveral(t *testing.T) {
	checkScore(t, "mill", "mill", 10)
	checkScore(t, "mill", "mills", 6)
	checkScore(t, "mill", "mills mill", 9)
	checkScore(t, "mill", "mile mills mill", 8)
	checkScore(t, "mill", "mile mills", 5)
	checkScore(t, "mill", "gate mile", 3)
}

// Each word of the text takes what is best for it then, whatever a later one wants.
func TestWordsChooseOneAfterTheOther(t *testing.T) {
	checkScore(t, "mill mills", "mills", 3)
	checkScore(t, "mills mill", "mills", 7)
	checkScore(t, "mill mills", "mills mill", 20)
	checkScore(t, "mill mills", "mills miles", 10)
	checkScore(t, "mile mill", "mill", 1)
	checkScore(t, "mill mile", "mill", 7)
	checkScore(t, "mil mill mills", "mills mill mil", 30)
	checkScore(t, "mill mil", "mills", 3)
	// Of several that are as good the first goes, and the others stay for later words.
	checkScore(t, "mil millers", "mills millers", 16)
	checkScore(t, "mil mills", "mills millers", 2)
	checkScore(t, "mil mills", "millers mills", 16)
	checkScore(t, "mile mole mule", "mule", -2)
	checkScore(t, "mule mile mole", "mule", 4)
	checkScore(t, "male mile", "mule mile", 14)
	checkScore(t, "male mile", "mile mule", 8)
	checkScore(t, "male mule", "mile mule", 14)
}

func TestWhatIsWorthNothingTakesNothing(t *testing.T) {
	checkScore(t, "gate mill", "mill", 7)
	checkScore(t, "gate gate mill", "mill", 4)
	checkScore(t, "gate gate gate mill", "mill", 1)
	checkScore(t, "gate gate gate gate mill", "mill", -2)
	checkScore(t, "mill gate gate gate", "mill", 1)
	checkScore(t, "gate mill", "mill lane", 6)
	checkScore(t, "gate lane", "mill lane", 6)
	checkScore(t, "gate x mill lane", "mill lane", 14)
}

func TestWordsThatStandTwice(t *testing.T) {
	checkScore(t, "mill mill", "mill", 7)
	checkScore(t, "mill mill", "mill mill", 20)
	checkScore(t, "mill", "mill mill", 9)
	checkScore(t, "mill mill mill", "mill mill", 17)
	checkScore(t, "mill mill", "mill mills", 16)
	checkScore(t, "mill mill", "mills mill", 16)
	checkScore(t, "n n", "north n nth", 19)
}

func TestWordsThatAreLeftCount(t *testing.T) {
	for left := range 9 {
		checkScore(t, "mill", "mill"+strings.Repeat(" x", left), int64(10-left))
		checkScore(t, "mill", strings.Repeat("x ", left)+"mill", int64(10-left))
	}
	// Just 1, and just 0.
	checkScore(t, "mill", "mill"+strings.Repeat(" x", 9), 1)
	checkScore(t, "mill", "mill"+strings.Repeat(" x", 10), 0)
	checkScore(t, "mil", "mill a b c d e", 1)
	checkScore(t, "mil", "mill a b c d e f", 0)
	checkScore(t, "mile", "mill a b c", 1)
	checkScore(t, "mile", "mill a b c d", 0)
	checkScore(t, "mile x", "mill", 1)
	checkScore(t, "mile x", "mill a", 0)
	checkScore(t, "mil x y", "mill", 0)
	m := signs("mill a b c", "mill a b c d", "mile x")
	checkFind(t, "just 0 is none", m, "mile", 50, nodeHit(3, 9, 20, 0), nodeHit(1, 1, 0, 0))
}

func TestHitsAreOrderedByTheirScore(t *testing.T) {
	m := signs("Mile", "Mill Gate", "Mill", "Mills", "Gate", "Mill Lane", "Mills Lane", "Mile Lane", "Mill X")
	checkFind(t, "each Score", m, "mill lane", 50, nodeHit(6, 20, 50, 0), nodeHit(7, 16, 60, 0), nodeHit(8, 14, 70, 0),
		nodeHit(3, 7, 20, 0), nodeHit(2, 6, 10, 0), nodeHit(9, 6, 80, 0), nodeHit(4, 3, 30, 0), nodeHit(1, 1, 0, 0))
}
