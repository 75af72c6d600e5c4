package tests

import (
	"math/rand"
	"slices"
	"strings"
	"testing"

	"loop.example/g00024/impl"
)

func nodeHit(id int64, score int64, x int64, y int64) impl.Hit {
	return impl.Hit{Id: id, Score: score, At: at(x, y)}
}

func wayHit(id int64, score int64, x int64, y int64) impl.Hit {
	return impl.Hit{Way: true, Id: id, Score: score, At: at(x, y)}
}

// noStreet is what is told beside the Areas where no way has a name.
func noStreet(areas ...int64) impl.Address { return impl.Address{Far: -1, Areas: areas} }

func address(way int64, street string, far int64, areas ...int64) impl.Address {
	return impl.Address{Street: street, Way: way, Far: far, Areas: areas}
}

// nameTags are no Tags for an empty name.
func nameTags(name string) []impl.Tag {
	if name == "" {
		return nil
	}
	return tags("name", name)
}

// signs are nodes 1, 2 and so on with these names, ten apart.
func signs(names ...string) impl.Map {
	var m impl.Map
	for i, name := range names {
		m.Nodes = append(m.Nodes, impl.Node{Id: int64(i + 1), Point: at(int64(10*i), 0), Tags: nameTags(name)})
	}
	return m
}

// alleys are ways 1, 2 and so on with these names, ten apart: each goes five to the north from node 2, 4 and so on.
func alleys(names ...string) impl.Map {
	var m impl.Map
	for i, name := range names {
		id, x := int64(i+1), int64(10*i)
		m.Nodes = append(m.Nodes, node(2*id, x, 0), node(2*id+1, x, 5))
		m.Ways = append(m.Ways, impl.Way{Id: id, Nodes: []int64{2 * id, 2*id + 1}, Tags: nameTags(name)})
	}
	return m
}

// district has each kind of what may be named, on one line with Ids that two kinds have, and areas round its middle.
func district() impl.Map {
	m := impl.Map{
		Nodes: []impl.Node{
			node(1, 0, 0, "name", "Mill"), node(2, 40, 0), node(3, 40, 40, "name", "Old Mill Station", "shop", "tea"), node(4, 0, 40),
			node(5, 10, 10), node(6, 30, 10), node(7, 20, 30), node(8, 90, 0, "name", "Gate"),
		},
		Ways: []impl.Way{way(3, 1, 2, 3), way(5, 3, 4, 1), way(7, 5, 6, 7, 5), way(8, 2, 8)},
		Areas: []impl.Area{
			{Id: 2, Parts: []impl.Part{outer(3), outer(5)}, Tags: tags("name", "Mill")},
			{Id: 4, Parts: []impl.Part{outer(3)}},
			{Id: 9, Parts: []impl.Part{inner(7), outer(5), outer(3)}},
		},
	}
	m.Ways[0].Tags = tags("highway", "street", "name", "Mill Lane")
	m.Ways[1].Tags = tags("name", "Nth. Station Rd")
	m.Ways[3].Tags = tags("name", "Mill Lane")
	return m
}

func sameAddress(a impl.Address, b impl.Address) bool {
	return a.Street == b.Street && a.Way == b.Way && a.Far == b.Far && slices.Equal(a.Areas, b.Areas)
}

func checkWords(t *testing.T, text string, want ...string) {
	t.Helper()
	if got := impl.WordsOf(text); !slices.Equal(got, want) {
		t.Errorf("the words of %q: %q, not %q", text, got, want)
	}
}

// checkEdits asks both ways round.
func checkEdits(t *testing.T, a string, b string, want int64) {
	t.Helper()
	if got := impl.Edits(a, b); got != want {
		t.Errorf("from %q to %q: %d, not %d", a, b, got, want)
	}
	if got := impl.Edits(b, a); got != want {
		t.Errorf("from %q back to %q: %d, not %d", b, a, got, want)
	}
}

func checkFind(t *testing.T, name string, m impl.Map, text string, most int64, want ...impl.Hit) {
	t.Helper()
	if got := impl.Find(m, text, most); !slices.Equal(got, want) {
		t.Errorf("%s: %q finds %s, not %s", name, text, short(got), short(want))
	}
}

// checkScore asks for what a text makes of one name; one of at most 0 is no hit.
func checkScore(t *testing.T, text string, name string, want int64) {
	t.Helper()
	if want <= 0 {
		checkFind(t, name, signs(name), text, 50)
		checkFind(t, name, alleys(name), text, 50)
		return
	}
	checkFind(t, name, signs(name), text, 50, nodeHit(1, want, 0, 0))
	checkFind(t, name, alleys(name), text, 50, wayHit(1, want, 0, 5))
}

func checkAddress(t *testing.T, name string, m impl.Map, p impl.Point, want impl.Address) {
	t.Helper()
	if got := impl.Reverse(m, p); !sameAddress(got, want) {
		t.Errorf("%s: at %v lies %s, not %s", name, p, short(got), short(want))
	}
}

// someWord is often one of those that begin or are like another one.
func someWord(r *rand.Rand) string {
	word := pick(r, "mill", "mile", "miles", "mil", "mills", "millers", "st", "street", "stree", "streets", "n", "nth", "north", "norh", "s", "4", "42", "ol", "old", "olds", "olde", "ode", "a")
	switch r.Intn(6) {
	case 0:
		return strings.ToUpper(word)
	case 1:
		return strings.ToUpper(word[:1]) + word[1:]
	}
	return word
}

// someText is a name or what is asked for, now and then without words.
func someText(r *rand.Rand) string {
	text := pick(r, "", "", "", " ", "'")
	for range 1 + r.Intn(4) - r.Intn(9)/8 {
		text += someWord(r) + pick(r, " ", " ", " ", "-", ". ", "~", "  ")
	}
	return strings.TrimRight(text, " ")
}

// withNames has names by chance, and no other Tags.
func withNames(r *rand.Rand, m impl.Map) impl.Map {
	for i := range m.Nodes {
		m.Nodes[i].Tags = nameTags(pick(r, "", someText(r)))
	}
	for i := range m.Ways {
		m.Ways[i].Tags = nameTags(pick(r, "", someText(r), someText(r)))
	}
	return m
}

// someQuarter has areas of some rings, of which some lie in others, on or across them; some lack a piece.
func someQuarter(r *rand.Rand) impl.Map {
	var strokes []stroke
	var areas []impl.Area
	for range r.Intn(5) {
		a := impl.Area{Id: int64(3*len(areas) + 1 + r.Intn(3))}
		for range 1 + r.Intn(2) {
			row, hole := someRing(r, at(r.Int63n(16)-18, r.Int63n(16)-18), 4+r.Int63n(22)), r.Intn(3) == 0
			for i, piece := range cut(row, someCuts(r, len(row))...) {
				if i > 0 && r.Intn(12) == 0 {
					continue
				}
				a.Parts = append(a.Parts, impl.Part{Way: drawnWay(len(strokes)), Inner: hole})
				strokes = append(strokes, stroke{row: pick(r, piece, turned(piece))})
			}
		}
		areas = append(areas, a)
	}
	strokes = append(strokes, stroke{row: path(r.Int63n(40)-20, -20, 20, r.Int63n(40)-20)})
	m := drawn(strokes...)
	m.Areas = areas
	return withNames(r, m)
}

// someCuts are none or some of the inner points of a row.
func someCuts(r *rand.Rand, count int) []int {
	var places []int
	for i := 1; i < count-1; i++ {
		if r.Intn(count) == 0 {
			places = append(places, i)
		}
	}
	return places
}
