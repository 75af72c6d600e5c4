package tests

import (
	"slices"
	"strings"
	"testing"

	"loop.example/g00024/impl"
)

// Promise 16, on small maps, drawn: what has a name is found by it, and what lies at a place is told.

// checkOrdered asks for what the document says of the order of hits, without their Scores being reckoned.
func checkOrdered(t *testing.T, hits []impl.Hit) {
	t.Helper()
	for i := 1; i < len(hits); i++ {
		a, b := hits[i-1], hits[i]
		nodesFirst := !a.Way && b.Way || a.Way == b.Way && a.Id < b.Id
		if a.Score < b.Score || a.Score == b.Score && !nodesFirst {
			t.Error("out of order:", a, b)
		}
	}
	for _, h := range hits {
		if h.Score < 1 {
			t.Error("no hit:", h)
		}
	}
}

// checkFoundByItsName asks for each thing's own name: nothing can have a greater Score.
func checkFoundByItsName(t *testing.T, m impl.Map) (found int) {
	t.Helper()
	for _, one := range thingsOf(m) {
		words := len(impl.WordsOf(one.name))
		hits := impl.Find(m, one.name, 50)
		checkOrdered(t, hits)
		one.hit.Score = int64(10 * words)
		if has := slices.Contains(hits, one.hit); has != (words > 0) {
			t.Errorf("%q finds %v", one.name, hits)
		}
		for _, h := range hits {
			if h.Score > one.hit.Score {
				t.Errorf("%q finds better than itself: %v", one.name, h)
			}
		}
		found += count(words > 0)
	}
	return found
}

// checkLiesThere asks at the place of each way that is found: a way that is there is told.
func checkLiesThere(t *testing.T, m impl.Map, hits []impl.Hit) (told int) {
	t.Helper()
	for _, h := range hits {
		if !h.Way {
			continue
		}
		a := impl.Reverse(m, h.At)
		i := slices.IndexFunc(m.Ways, func(w impl.Way) bool { return w.Id == a.Way })
		if i < 0 || a.Far != 0 || a.Way > h.Id || impl.TagOf(m.Ways[i].Tags, "name") != a.Street || impl.Near(impl.WayRow(m, a.Way), h.At).Far != 0 {
			t.Errorf("at %v lies %v", h, a)
		}
		told++
	}
	return told
}

func TestNamesFindWhatHasThem(t *testing.T) {
	tell := numbers(203)
	found, told := 0, 0
	for range 4000 {
		m := withNames(tell, someMap(tell))
		found += checkFoundByItsName(t, m)
		told += checkLiesThere(t, m, impl.Find(m, someText(tell), 50))
		if t.Failed() {
			t.Fatal(m)
		}
	}
	if found < 10000 || told < 2000 {
		t.Error("too few are found:", found, told)
	}
}

func TestHitsAsReckoned(t *testing.T) {
	tell := numbers(204)
	told := map[int]int{}
	cut := 0
	for range 20000 {
		m := withNames(tell, someMap(tell))
		text, most := someText(tell), pick(tell, 50, 50, tell.Int63n(9), tell.Int63n(51))
		want := hitsOf(m, text, most)
		told[min(len(want), 4)]++
		cut += count(len(hitsOf(m, text, 50)) > len(want))
		checkFind(t, "drawn", m, text, most, want...)
		if t.Failed() {
			t.Fatal(m, text, most)
		}
	}
	if told[0] < 1000 || told[1] < 1000 || told[4] < 1000 || cut < 1000 {
		t.Error("too few of a kind:", told, cut)
	}
}

// Scores by chance of long texts and names, which have many words to choose among.
func TestScoresAsReckoned(t *testing.T) {
	tell := numbers(205)
	long := func() string {
		text := ""
		for range 1 + tell.Intn(14) {
			text += someWord(tell) + pick(tell, " ", "-")
		}
		return strings.TrimRight(text[:min(len(text), 100)], " ")
	}
	above := 0
	for range 30000 {
		text, name := long(), long()
		if tell.Intn(3) == 0 {
			name = strings.ToUpper(text)
		}
		want := scoreOf(text, name)
		above += count(want > 0)
		checkScore(t, text, name, want)
		if t.Failed() {
			t.Fatal(text, name)
		}
	}
	if above < 10000 || above > 25000 {
		t.Error("too few of a kind:", above)
	}
}

func TestAddressesAsReckoned(t *testing.T) {
	tell := numbers(206)
	streets, within := map[bool]int{}, map[int]int{}
	for range 2000 {
		m := someQuarter(tell)
		if tell.Intn(8) == 0 {
			m = withNames(tell, someMap(tell))
		}
		for range 6 {
			p := somewhere(tell, 16)
			want := addressAt(m, p)
			streets[want.Way > 0]++
			within[len(want.Areas)]++
			checkAddress(t, "drawn", m, p, want)
		}
		if len(m.Nodes) > 0 {
			p := pick(tell, m.Nodes...).Point
			checkAddress(t, "at a node", m, p, addressAt(m, p))
		}
		if t.Failed() {
			t.Fatal(m)
		}
	}
	if streets[true] < 5000 || streets[false] < 500 || within[0] < 5000 || within[1] < 1500 || within[2] < 400 {
		t.Error("too few of a kind:", streets, within)
	}
}
