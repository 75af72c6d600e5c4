package tests

import (
	"math/rand"
	"slices"
	"testing"

	"loop.example/g00024/impl"
)

func tile(zoom int64, x int64, y int64) impl.Tile { return impl.Tile{Zoom: zoom, X: x, Y: y} }

func line(way int64, row []impl.Point, pairs ...string) impl.Line {
	return impl.Line{Way: way, Row: row, Tags: tags(pairs...)}
}

func tileData(t impl.Tile, lines ...impl.Line) impl.TileData {
	return impl.TileData{Tile: t, Lines: lines}
}

// sameTileData holds two against each other, with an empty list as nil.
func sameTileData(a impl.TileData, b impl.TileData) bool {
	return a.Tile == b.Tile && slices.EqualFunc(a.Lines, b.Lines, func(a impl.Line, b impl.Line) bool {
		return a.Way == b.Way && slices.Equal(a.Row, b.Row) && slices.Equal(a.Tags, b.Tags)
	})
}

func sameRows(a [][]impl.Point, b [][]impl.Point) bool {
	return slices.EqualFunc(a, b, func(a []impl.Point, b []impl.Point) bool { return slices.Equal(a, b) })
}

func checkTileBox(t *testing.T, one impl.Tile, want impl.Box) {
	t.Helper()
	if got := impl.TileBox(one); got != want {
		t.Error(one, "has", got, "and not", want)
	}
}

func checkTiles(t *testing.T, name string, b impl.Box, zoom int64, want ...impl.Tile) {
	t.Helper()
	if got := impl.TilesOf(b, zoom); !slices.Equal(got, want) {
		t.Error(name, b, zoom, "gives", short(got), "and not", short(want))
	}
}

// checkClip asks the same of the row turned round: the same pieces, turned round, from the last to the first.
func checkClip(t *testing.T, name string, row []impl.Point, b impl.Box, want ...[]impl.Point) {
	t.Helper()
	if got := impl.Clip(row, b); !sameRows(got, want) {
		t.Error(name, short(row), b, "gives", short(got), "and not", short(want))
	}
	back := make([][]impl.Point, len(want))
	for i, piece := range want {
		back[len(want)-1-i] = turned(piece)
	}
	if got := impl.Clip(turned(row), b); !sameRows(got, back) {
		t.Error(name, "turned round", short(turned(row)), b, "gives", short(got), "and not", short(back))
	}
}

func checkQuantised(t *testing.T, name string, row []impl.Point, one impl.Tile, want ...impl.Point) {
	t.Helper()
	if got := impl.Quantise(row, one); !slices.Equal(got, want) {
		t.Error(name, short(row), one, "gives", short(got), "and not", short(want))
	}
}

func checkTileOf(t *testing.T, name string, m impl.Map, one impl.Tile, want impl.TileData) {
	t.Helper()
	if got := impl.TileOf(m, one); !sameTileData(got, want) {
		t.Error(name, one, "gives", short(got), "and not", short(want))
	}
}

// noTiles can't be, each by one number.
func noTiles() []impl.Tile {
	return []impl.Tile{
		tile(-1, 0, 0), tile(impl.MaxZoom+1, 0, 0), tile(0, 1, 0), tile(0, 0, 1), tile(0, -1, 0), tile(0, 0, -1),
		tile(3, 8, 0), tile(3, 0, 8), tile(3, -1, 7), tile(3, 7, -1), tile(impl.MaxZoom, 1024, 0), tile(impl.MaxZoom, 0, 1024),
	}
}

// someTile is one that can be, most often one that points can lie in.
func someTile(r *rand.Rand) impl.Tile {
	zoom := r.Int63n(11)
	count := int64(1) << zoom
	if r.Intn(4) == 0 {
		return tile(zoom, r.Int63n(count), r.Int63n(count))
	}
	x, y := count/2-r.Int63n(2), count/2-r.Int63n(2)
	return tile(zoom, max(x, 0), max(y, 0))
}

// someTileData has lines of every kind that can be written: empty ones, and far to and fro.
func someTileData(r *rand.Rand) impl.TileData {
	d := tileData(someTile(r))
	for range r.Intn(4) {
		l := impl.Line{Way: 1 + r.Int63n([]int64{9, 300, impl.MaxId}[r.Intn(3)]), Tags: someTags(r)}
		for range r.Intn(5) {
			l.Row = append(l.Row, at(r.Int63n(impl.Grid+1), r.Int63n(impl.Grid+1)))
		}
		d.Lines = append(d.Lines, l)
	}
	return d
}

// spread is a map with its points farther apart, so that ways go over several tiles.
func spread(m impl.Map, by int64) impl.Map {
	wide := same(m)
	for i, n := range wide.Nodes {
		wide.Nodes[i].Point = at(n.Point.X*by, n.Point.Y*by)
	}
	return wide
}
