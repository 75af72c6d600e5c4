package tests

import (
	"math/rand"
	"slices"
	"testing"

	"loop.example/g00024/impl"
)

// Promise 6: tiles join at their edges. What a stretch has in a tile and in the next one ends at the same point of the edge
// between them.

// joinAt is where the two parts of a stretch meet, in two boxes that share the edge at e of that axis; from lies below it, to above.
func joinAt(from impl.Point, to impl.Point, axis int, e int64) impl.Point {
	c := crossingOf(spotOf(from), spotOf(to), axis, e)
	return at(c[0], c[1])
}

// middleTile lies so near the origin, and is so small, that all points around it can be.
func middleTile(r *rand.Rand) impl.Tile {
	zoom := 4 + r.Int63n(7)
	n := int64(1) << (zoom - 1)
	return tile(zoom, n-1+r.Int63n(3), n-1+r.Int63n(3))
}

func eastOf(one impl.Tile) impl.Tile { return tile(one.Zoom, one.X+1, one.Y) }

func northOf(one impl.Tile) impl.Tile { return tile(one.Zoom, one.X, one.Y+1) }

// overEdge picks a stretch from below an edge to above it, not far from a tile of that side.
func overEdge(pick func() impl.Point, axis int, e int64) (impl.Point, impl.Point) {
	for {
		p, q := pick(), pick()
		a, b := spotOf(p)[axis], spotOf(q)[axis]
		if a < e && e < b {
			return p, q
		}
		if b < e && e < a {
			return q, p
		}
	}
}

// onePiece is the part of a stretch in a tile; nothing when there is none.
func onePiece(t *testing.T, from impl.Point, to impl.Point, one impl.Tile) []impl.Point {
	rows := impl.Clip([]impl.Point{from, to}, impl.TileBox(one))
	if len(rows) == 0 {
		return nil
	}
	if len(rows) > 1 || len(rows[0]) != 2 {
		t.Fatal(from, to, one, rows)
	}
	return rows[0]
}

func TestStretchesJoinAtUprightEdges(t *testing.T) {
	tell := numbers(74)
	joined := 0
	for range 20000 {
		west := middleTile(tell)
		b, side := impl.TileBox(west), int64(33554432)>>west.Zoom
		pick := func() impl.Point {
			return at(b.High.X+within(tell, 2*side), b.Low.Y+side/2+within(tell, side))
		}
		p, q := overEdge(pick, 0, b.High.X)
		left, right := onePiece(t, p, q, west), onePiece(t, p, q, eastOf(west))
		c := joinAt(p, q, 0, b.High.X)
		if left != nil && right != nil {
			joined++
			if left[1] != c || right[0] != c {
				t.Fatal(p, q, west, "ends at", left[1], "and goes on at", right[0], "not at", c)
			}
		}
		// Turned round, both end where they began.
		back, ahead := onePiece(t, q, p, west), onePiece(t, q, p, eastOf(west))
		if !slices.Equal(turned(back), left) || !slices.Equal(turned(ahead), right) {
			t.Fatal(p, q, west, left, back, right, ahead)
		}
	}
	if joined < 5000 {
		t.Error("too few joined:", joined)
	}
}

func TestStretchesJoinAtLevelEdges(t *testing.T) {
	tell := numbers(75)
	joined := 0
	for range 20000 {
		south := middleTile(tell)
		b, side := impl.TileBox(south), int64(33554432)>>south.Zoom
		pick := func() impl.Point {
			return at(b.Low.X+side/2+within(tell, side), b.High.Y+within(tell, 2*side))
		}
		p, q := overEdge(pick, 1, b.High.Y)
		low, high := onePiece(t, p, q, south), onePiece(t, p, q, northOf(south))
		if low == nil || high == nil {
			continue
		}
		joined++
		// Where the stretch grazes the edge at a corner, both have that corner.
		if c := joinAt(p, q, 1, b.High.Y); !grazes(spotOf(p), spotOf(q), spotOf(b.Low), spotOf(b.High)) && (low[1] != c || high[0] != c) {
			t.Fatal(p, q, south, "ends at", low[1], "and goes on at", high[0], "not at", c)
		}
		if low[1].Y != b.High.Y || !slices.Contains(high, low[1]) {
			t.Fatal(p, q, south, low, high)
		}
	}
	if joined < 5000 {
		t.Error("too few joined:", joined)
	}
}

// What lies on an edge belongs to the tiles on both its sides.
func TestStretchesAlongEdgesAreInBothTiles(t *testing.T) {
	tell := numbers(76)
	for range 2000 {
		one := middleTile(tell)
		b := impl.TileBox(one)
		up := []impl.Point{at(b.High.X, b.Low.Y+tell.Int63n(9)-4), at(b.High.X, b.High.Y+tell.Int63n(9)-4)}
		if left, right := onePiece(t, up[0], up[1], one), onePiece(t, up[0], up[1], eastOf(one)); left == nil || !slices.Equal(left, right) {
			t.Fatal(up, left, right)
		}
		level := []impl.Point{at(b.Low.X+tell.Int63n(9)-4, b.High.Y), at(b.High.X+tell.Int63n(9)-4, b.High.Y)}
		if low, high := onePiece(t, level[0], level[1], one), onePiece(t, level[0], level[1], northOf(one)); low == nil || !slices.Equal(low, high) {
			t.Fatal(level, low, high)
		}
	}
}

// A way through four tiles around a corner, and back through the fourth: the lines end where those of the next tile begin.
func TestLinesJoinAtTheEdgesOfTiles(t *testing.T) {
	m := impl.Map{
		Nodes: []impl.Node{node(1, -20000, -9000), node(2, 15000, -10000), node(3, 9000, 21000), node(4, -17000, 11003)},
		Ways:  []impl.Way{way(8, 1, 2, 3, 4, 1)},
	}
	// The crossings: (0, -9571.4..), (13064.5.., 0), (0, 17539.5), (-18650.2.., 0), each rounded down.
	checkTileOf(t, "southwest", m, tile(10, 511, 511), tileData(tile(10, 511, 511), line(8, path(1596, 2971, 4096, 2899)), line(8, path(1764, 4096, 1596, 2971))))
	checkTileOf(t, "southeast", m, tile(10, 512, 511), tileData(tile(10, 512, 511), line(8, path(0, 2899, 1875, 2846, 1633, 4096))))
	checkTileOf(t, "northeast", m, tile(10, 512, 512), tileData(tile(10, 512, 512), line(8, path(1633, 0, 1125, 2625, 0, 2192))))
	checkTileOf(t, "northwest", m, tile(10, 511, 512), tileData(tile(10, 511, 512), line(8, path(4096, 2192, 1971, 1375, 1764, 0))))
}

// endsOn are the places along an edge at which the lines of a tile begin or end, sorted: those with that coordinate.
func endsOn(d impl.TileData, edge int64, of func(p impl.Point) (int64, int64)) []int64 {
	var ends []int64
	for _, l := range d.Lines {
		for _, p := range []impl.Point{l.Row[0], l.Row[len(l.Row)-1]} {
			if across, along := of(p); across == edge {
				ends = append(ends, along)
			}
		}
	}
	slices.Sort(ends)
	return ends
}

// Maps by chance, of ways of one stretch each, of which none comes near a corner: at each edge the lines of both tiles have the same ends.
func TestLinesOfMapsJoin(t *testing.T) {
	tell := numbers(77)
	byX := func(p impl.Point) (int64, int64) { return p.X, p.Y }
	byY := func(p impl.Point) (int64, int64) { return p.Y, p.X }
	ends := 0
	for range 300 {
		var m impl.Map
		for i := range int64(30) {
			// From one half of a tile's neighbourhood to the other, in the middle third of its height, or upright likewise.
			low, high := at(-100-tell.Int63n(32000), 11000+tell.Int63n(11000)), at(100+tell.Int63n(32000), 11000+tell.Int63n(11000))
			if i%2 == 1 {
				low, high = at(low.Y, low.X), at(high.Y, high.X)
			}
			m.Nodes = append(m.Nodes, impl.Node{Id: 2*i + 1, Point: low}, impl.Node{Id: 2*i + 2, Point: high})
			m.Ways = append(m.Ways, way(i+1, 2*i+1, 2*i+2))
		}
		here := impl.TileOf(m, tile(10, 512, 512))
		west, south := impl.TileOf(m, tile(10, 511, 512)), impl.TileOf(m, tile(10, 512, 511))
		upright, level := endsOn(here, 0, byX), endsOn(here, 0, byY)
		if !slices.Equal(upright, endsOn(west, impl.Grid, byX)) || !slices.Equal(level, endsOn(south, impl.Grid, byY)) {
			t.Fatal(m, here, west, south)
		}
		ends += len(upright) + len(level)
	}
	if ends < 5000 {
		t.Error("too few ends:", ends)
	}
}
