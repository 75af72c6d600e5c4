package tests

import (
	"fmt"
	"strings"
	"testing"

	"loop.example/g00024/impl"
)

// Great maps and long texts, in a time that one can wait for.

// greatNames has as many nodes, ways and areas as may be, all nodes and ways with a long name. The first ways are squares
// round the middle, each an area and ten wider than the one ahead; the others go along all of their corners as far as they may.
func greatNames() impl.Map {
	var m impl.Map
	for i := range int64(impl.MaxNodes) {
		side, corner := 10*(i/4+1), i%4
		p := []impl.Point{at(-side, -side), at(side, -side), at(side, side), at(-side, side)}[corner]
		m.Nodes = append(m.Nodes, impl.Node{Id: i + 1, Point: p, Tags: tags("name", manyWords("n", i))})
	}
	for i := range int64(impl.MaxWays) {
		w := impl.Way{Id: i + 1, Tags: tags("name", manyWords("w", i))}
		if i < impl.MaxAreas {
			w.Nodes = []int64{4*i + 1, 4*i + 2, 4*i + 3, 4*i + 4, 4*i + 1}
			m.Areas = append(m.Areas, impl.Area{Id: i + 1, Parts: []impl.Part{outer(i + 1)}})
		} else {
			for k := range int64(impl.MaxRow) {
				w.Nodes = append(w.Nodes, 4*(i+k)+1-4*(impl.MaxNodes/4)*((i+k)/(impl.MaxNodes/4)))
			}
		}
		m.Ways = append(m.Ways, w)
	}
	return m
}

// manyWords are twenty of four bytes, nineteen of them alike by a byte or by none.
func manyWords(first string, number int64) string {
	text := fmt.Sprintf("%s%03d", first, number%1000)
	for i := range int64(19) {
		text += " ab" + string([]byte{byte('a' + (number+i)%20), 'c'})
	}
	return text
}

func TestGreatMapsAreFoundIn(t *testing.T) {
	m := greatNames()
	// There are few words, so that what each is worth is reckoned once.
	worths := map[[2]string]int64{}
	worth := func(word string, other string) int64 {
		pair := [2]string{word, other}
		if worths[pair] == 0 {
			worths[pair] = worthBy(word, other)
		}
		return worths[pair]
	}
	for _, text := range []string{manyWords("w", 417), manyWords("x", 3), strings.Repeat("abzc ", 20), strings.Repeat("zzzz ", 20), strings.Repeat("a ", 50)} {
		checkFind(t, "a great map", m, text, 50, hitsBy(m, text, 50, worth)...)
	}
	checkFind(t, "its own name", m, manyWords("w", 417), 1, wayHit(418, 200, m.Nodes[m.Ways[417].Nodes[1000]-1].Point.X, m.Nodes[m.Ways[417].Nodes[1000]-1].Point.Y))
	// Words that are all alike: each is held against all that are left.
	alike := same(m)
	for i := range alike.Nodes {
		alike.Nodes[i].Tags = tags("name", strings.Repeat("m ", 49)+"m")
	}
	hits := impl.Find(alike, strings.Repeat("m ", 50), 50)
	if len(hits) != 50 || hits[0] != nodeHit(1, 500, -10, -10) || hits[49].Id != 50 {
		t.Error(short(hits))
	}
}

func TestGreatMapsTellWhatLiesThere(t *testing.T) {
	m := greatNames()
	for _, one := range []struct {
		p     impl.Point
		inner int64
		far   int64
		way   int64
	}{{at(0, 0), 1, 10, 1}, {at(3000, 5), 300, 0, 300}, {at(1502, 0), 151, 2, 150}, {at(-2, 25), 3, 5, 2}} {
		var areas []int64
		for id := one.inner; id <= impl.MaxAreas; id++ {
			areas = append(areas, id)
		}
		checkAddress(t, "a great map", m, one.p, address(one.way, impl.TagOf(m.Ways[one.way-1].Tags, "name"), one.far, areas...))
	}
	// The last square that is an area is 3000 wide on each side.
	checkAddress(t, "outside", m, at(3003, 0), address(300, manyWords("w", 299), 3))
}

// roundRing is one of that many stretches that goes round twice as far as it is high.
func roundRing(count int64) []impl.Point {
	var row []impl.Point
	half := count / 2
	for i := range half {
		row = append(row, at(1000*(i-half/2), (i-half/2)*(i-half/2)-half*half))
	}
	for i := range half {
		row = append(row, at(1000*(half/2-i), half*half-(half/2-i)*(half/2-i)))
	}
	return append(row, row[0])
}

// Each area has the same great rings, by ways that begin at other points of them.
func TestGreatRingsTellWhatLiesThere(t *testing.T) {
	row := roundRing(1998)
	var strokes []stroke
	for i := range 29 {
		strokes = append(strokes, stroke{row: begun(row, 60*i)})
	}
	m := drawn(strokes...)
	parts, ids := m.Areas[1].Parts, manyIds(impl.MaxAreas)
	m.Areas = nil
	for _, id := range ids {
		m.Areas = append(m.Areas, impl.Area{Id: id, Parts: parts})
	}
	checkAddress(t, "by an odd number of rings", m, at(0, 0), noStreet(ids...))
	checkAddress(t, "at a corner", m, row[700], noStreet(ids...))
	checkAddress(t, "outside", m, at(-999000, 0), noStreet())
	for i := range m.Areas {
		m.Areas[i].Parts = parts[:1+i%2]
	}
	odd := noStreet()
	for i := 0; i < len(ids); i += 2 {
		odd.Areas = append(odd.Areas, ids[i])
	}
	checkAddress(t, "by one ring or two", m, at(0, 0), odd)
}
