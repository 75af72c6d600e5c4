package tests

import (
	"math"
	"runtime"
	"slices"
	"strings"
	"sync"
	"testing"
	"time"

	"loop.example/g00024/impl"
)

// Promise 19, of chapter 16: every function answers at every argument and none panics; answers are new memory; arguments stay.

type twoTexts struct {
	A, B string
}

type mapAndText struct {
	Map  impl.Map
	Text string
	Most int64
}

type mapAndPoint struct {
	Map   impl.Map
	Point impl.Point
}

func askWords(a twoTexts) []string { return impl.WordsOf(a.A) }

func askEdits(a twoTexts) int64 { return impl.Edits(a.A, a.B) }

func askFind(a mapAndText) []impl.Hit { return impl.Find(a.Map, a.Text, a.Most) }

func askReverse(a mapAndPoint) impl.Address { return impl.Reverse(a.Map, a.Point) }

// strangeTexts are of every kind: bytes that are no rune, nothing, and such as are too long.
func strangeTexts() []string {
	return []string{
		"", " ", "a", "mill", "Mill Lane", "N St", "\x00", "\xff", "\xc3", "\u00e9\u00df\u0130", "\U0001f600", "\xed\xa0\x80", strings.Repeat("a", 40), strings.Repeat("a", 41),
		strings.Repeat("a ", 50), strings.Repeat("a ", 50) + "a", strings.Repeat("\xff", 100), strings.Repeat("ab", 1<<20), strings.Repeat("\xe2", 1<<20),
	}
}

func namedMapsToGuard() []impl.Map {
	tell := numbers(207)
	maps := append(mapsToGuard(), district(), signs("Mill", "Mill", "Gate"), alleys("Mill", "", "Gate"), signs(slices.Repeat([]string{"Mill"}, 60)...))
	for range 40 {
		maps = append(maps, withNames(tell, someMap(tell)), someQuarter(tell))
	}
	return maps
}

func TestMapsStayAndHitsAreNew(t *testing.T) {
	hits, areas := 0, 0
	for _, m := range namedMapsToGuard() {
		for _, text := range []string{"", "mill", "Mill Lane", "a st n", strings.Repeat("a", 101)} {
			for _, most := range []int64{-1, 0, 1, 50, 51} {
				a := mapAndText{m, text, most}
				checkMemory(t, "Find", a, askFind)
				hits += count(len(askFind(a)) > 0)
			}
		}
		for _, p := range []impl.Point{at(0, 0), at(5, 5), at(-7, 3), at(30, 30), at(impl.MaxCoord+1, 0)} {
			a := mapAndPoint{m, p}
			checkMemory(t, "Reverse", a, askReverse)
			areas += count(len(askReverse(a).Areas) > 0)
		}
	}
	for _, a := range strangeTexts() {
		for _, b := range strangeTexts() {
			checkMemory(t, "WordsOf", twoTexts{a, b}, askWords)
			checkMemory(t, "Edits", twoTexts{a, b}, askEdits)
		}
	}
	if hits < 100 || areas < 20 {
		t.Error("too few are told:", hits, areas)
	}
}

// What was told before stays as it was, whatever is done to the arguments and to what is told later.
func TestHitsDoNotFollow(t *testing.T) {
	m := district()
	words, hits, there := impl.WordsOf("Old Mill St"), impl.Find(m, "mill lane", 2), impl.Reverse(m, at(20, 0))
	clear(impl.WordsOf("Old Mill St"))
	clear(impl.Find(m, "mill lane", 2))
	clear(impl.Reverse(m, at(20, 0)).Areas)
	_ = append(impl.WordsOf("Old Mill St"), "x", "y")
	_ = append(impl.Find(m, "mill lane", 2), nodeHit(9, 9, 9, 9), nodeHit(9, 9, 9, 9))
	_ = append(impl.Reverse(m, at(20, 0)).Areas, 9, 9, 9)
	for i := range m.Ways {
		clear(m.Ways[i].Nodes)
		clear(m.Ways[i].Tags)
	}
	for i := range m.Areas {
		clear(m.Areas[i].Parts)
	}
	clear(m.Nodes)
	clear(m.Ways)
	clear(m.Areas)
	check := func(name string) {
		t.Helper()
		if !slices.Equal(words, []string{"old", "mill", "street"}) {
			t.Error(name, words)
		}
		if !slices.Equal(hits, []impl.Hit{wayHit(3, 20, 40, 0), wayHit(8, 20, 90, 0)}) {
			t.Error(name, hits)
		}
		if !sameAddress(there, address(3, "Mill Lane", 0, 2, 9)) {
			t.Error(name, there)
		}
	}
	check("told before")
	impl.Find(signs("Gate", "Mill"), "gate mill", 50)
	impl.Reverse(alleys("Gate"), at(0, 0))
	impl.WordsOf("a b c d e")
	check("asked for others")
}

func TestNamesOfEveryKindAreAnswered(t *testing.T) {
	tell := numbers(208)
	good := map[bool]int{}
	number := func() int64 { return pick(tell, append(strange(), 50, 51, 3, 9)...) }
	texts := slices.DeleteFunc(strangeTexts(), func(text string) bool { return len(text) > 1000 })
	for seed := range int64(20000) {
		m := strangeMap(seed)
		if tell.Intn(2) == 0 {
			m = withNames(tell, shaken(tell, someMap(tell)))
		}
		good[impl.MapOk(m)]++
		text, most := pick(tell, pick(tell, texts...), someText(tell)), number()
		checkFind(t, "strange", m, text, most, hitsOf(m, text, most)...)
		p := pick(tell, at(number(), number()), somewhere(tell, 6))
		checkAddress(t, "strange", m, p, addressAt(m, p))
		checkWords(t, text, wordsOf(text)...)
		other := text[tell.Intn(len(text)+1):]
		checkEdits(t, text, other, editsOf(text, other))
		if t.Failed() {
			t.Fatal(m, text, most, p)
		}
	}
	if good[true] < 3000 || good[false] < 3000 {
		t.Error("too few of a kind:", good)
	}
}

func TestGreatListsOfNamesAreAnswered(t *testing.T) {
	many := 1 << 20
	for name, m := range map[string]impl.Map{
		"nodes": {Nodes: make([]impl.Node, many)}, "ways": {Ways: make([]impl.Way, many)}, "areas": {Areas: make([]impl.Area, many)},
		"a way's nodes": {Nodes: blank(2, 0, 0).Nodes, Ways: []impl.Way{{Id: 1, Nodes: sway(1, 2, many), Tags: tags("name", "Mill")}}},
		"Tags":          {Nodes: []impl.Node{{Id: 1, Tags: make([]impl.Tag, many)}}},
		"a name":        signs(strings.Repeat("a", many)), "one node too many": signs(slices.Repeat([]string{"Mill"}, impl.MaxNodes+1)...),
	} {
		checkFind(t, name, m, "mill", 50)
		checkAddress(t, name, m, at(0, 0), impl.Address{})
	}
	most := signs(slices.Repeat([]string{"Mill"}, impl.MaxNodes)...)
	if hits := impl.Find(most, "mill", 50); len(hits) != 50 || hits[49] != nodeHit(50, 10, 490, 0) {
		t.Error(hits)
	}
	for _, n := range []int64{math.MinInt64, math.MaxInt64} {
		checkFind(t, "as far as there is", most, "mill", n)
		checkAddress(t, "as far as there is", most, at(n, n), impl.Address{})
	}
}

func TestTheSameNamesAreAnsweredAgain(t *testing.T) {
	tell := numbers(209)
	for range 300 {
		m, text, p := someQuarter(tell), someText(tell), somewhere(tell, 16)
		hits, there, words, edits := impl.Find(m, text, 50), impl.Reverse(m, p), impl.WordsOf(text), impl.Edits(text, "mill lane")
		impl.Find(district(), "mill lane", 50)
		impl.Reverse(district(), at(5, 5))
		impl.Edits("mill", "mile")
		for range 3 {
			checkFind(t, "again", m, text, 50, hits...)
			checkAddress(t, "again", m, p, there)
			checkWords(t, text, words...)
			checkEdits(t, text, "mill lane", edits)
		}
	}
}

// However many are scored at the same time, and beside other calls, the answers are the same.
func TestHitsAreTheSameHoweverTheyRun(t *testing.T) {
	defer runtime.GOMAXPROCS(runtime.GOMAXPROCS(0))
	tell := numbers(210)
	names := make([]string, 3000)
	for i := range names {
		names[i] = someText(tell)
	}
	m, text := signs(names...), "mill st n old"
	m.Nodes = append(m.Nodes, node(5000, 7, 7))
	m.Ways = []impl.Way{{Id: 4, Nodes: []int64{1, 5000}, Tags: tags("name", "Mill St")}}
	hits, there := hitsOf(m, text, 50), addressAt(m, at(5, 9))
	if len(hits) != 50 || there.Way != 4 {
		t.Fatal("too few are found")
	}
	for _, processors := range []int{1, 2, 8} {
		runtime.GOMAXPROCS(processors)
		var open sync.WaitGroup
		for range 8 {
			open.Go(func() {
				for range 3 {
					checkFind(t, "side by side", m, text, 50, hits...)
					checkAddress(t, "side by side", m, at(5, 9), there)
					checkWords(t, "Old Mill St", "old", "mill", "street")
					checkEdits(t, "mill", "mile", 1)
				}
			})
		}
		open.Wait()
	}
}

// All that was begun has ended when the answer is there.
func TestSearchesLeaveNothingRunning(t *testing.T) {
	m := signs(slices.Repeat([]string{"Mill"}, impl.MaxNodes)...)
	before := runtime.NumGoroutine()
	for range 20 {
		impl.Find(m, "mill", 50)
	}
	// A goroutine that has said that it is done may need a moment more to be gone.
	for range 1000 {
		if runtime.NumGoroutine() <= before {
			return
		}
		time.Sleep(time.Millisecond)
	}
	t.Error(runtime.NumGoroutine(), "goroutines run, and not", before)
}
