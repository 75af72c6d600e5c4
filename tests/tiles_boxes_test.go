package tests

import (
	"math"
	"slices"
	"testing"

	"loop.example/g00024/impl"
)

// Promise 6, of TileOk, TileBox and TilesOf: tiles join at their edges.

func TestTileOk(t *testing.T) {
	for zoom := range int64(11) {
		last := int64(1)<<zoom - 1
		for _, one := range []impl.Tile{tile(zoom, 0, 0), tile(zoom, last, 0), tile(zoom, 0, last), tile(zoom, last, last), tile(zoom, last/2, last)} {
			if !impl.TileOk(one) {
				t.Error(one, "can be")
			}
		}
		for _, n := range []int64{-1, last + 1, last + 2, 2*last + 2, math.MinInt64, math.MaxInt64} {
			for _, one := range []impl.Tile{tile(zoom, n, 0), tile(zoom, 0, n), tile(zoom, n, last), tile(zoom, last, n), tile(zoom, n, n)} {
				if impl.TileOk(one) {
					t.Error(one, "can't be")
				}
				checkTileBox(t, one, impl.Box{})
			}
		}
	}
	for _, zoom := range []int64{-1, impl.MaxZoom + 1, -2, 12, 62, 63, 64, 65, -64, math.MinInt64, math.MaxInt64} {
		for _, n := range []int64{0, 1, -1, 1023} {
			if impl.TileOk(tile(zoom, n, n)) || impl.TileOk(tile(zoom, n, 0)) || impl.TileOk(tile(zoom, 0, n)) {
				t.Error("zoom", zoom, "can't be")
			}
			checkTileBox(t, tile(zoom, n, n), impl.Box{})
		}
	}
	for _, one := range noTiles() {
		if impl.TileOk(one) {
			t.Error(one, "can't be")
		}
	}
}

func TestTileBox(t *testing.T) {
	const far = 16777216
	checkTileBox(t, tile(0, 0, 0), box(-far, -far, far, far))
	checkTileBox(t, tile(1, 0, 0), box(-far, -far, 0, 0))
	checkTileBox(t, tile(1, 1, 0), box(0, -far, far, 0))
	checkTileBox(t, tile(1, 0, 1), box(-far, 0, 0, far))
	checkTileBox(t, tile(1, 1, 1), box(0, 0, far, far))
	checkTileBox(t, tile(2, 1, 2), box(-far/2, 0, 0, far/2))
	checkTileBox(t, tile(10, 0, 0), box(-far, -far, -far+32768, -far+32768))
	checkTileBox(t, tile(10, 512, 511), box(0, -32768, 32768, 0))
	checkTileBox(t, tile(10, 1023, 1023), box(far-32768, far-32768, far, far))
	checkTileBox(t, tile(9, 300, 17), box(-far+300*65536, -far+17*65536, -far+301*65536, -far+18*65536))
}

func TestTilesAgainstTheWords(t *testing.T) {
	tell := numbers(61)
	for _, zoom := range []int64{0, 1, 2, 3, 4} {
		for x := range int64(1) << zoom {
			for y := range int64(1) << zoom {
				checkTileBox(t, tile(zoom, x, y), tileBoxOf(tile(zoom, x, y)))
			}
		}
	}
	for range 20000 {
		one := tile(tell.Int63n(13)-1, tell.Int63n(1100)-20, tell.Int63n(1100)-20)
		if tell.Intn(2) == 0 {
			one = someTile(tell)
		}
		checkTileBox(t, one, tileBoxOf(one))
		if impl.TileOk(one) != tileCanBe(one) {
			t.Fatal(one)
		}
	}
}

// Each tile's upper edges are the lower ones of the next tile, and its four quarters fill it.
func TestNeighboursShareAnEdge(t *testing.T) {
	tell := numbers(62)
	for range 5000 {
		one := someTile(tell)
		b := impl.TileBox(one)
		if east := tile(one.Zoom, one.X+1, one.Y); impl.TileOk(east) {
			checkTileBox(t, east, box(b.High.X, b.Low.Y, 2*b.High.X-b.Low.X, b.High.Y))
		}
		if north := tile(one.Zoom, one.X, one.Y+1); impl.TileOk(north) {
			checkTileBox(t, north, box(b.Low.X, b.High.Y, b.High.X, 2*b.High.Y-b.Low.Y))
		}
		if one.Zoom == impl.MaxZoom {
			continue
		}
		x, y := (b.Low.X+b.High.X)/2, (b.Low.Y+b.High.Y)/2
		checkTileBox(t, tile(one.Zoom+1, 2*one.X, 2*one.Y), box(b.Low.X, b.Low.Y, x, y))
		checkTileBox(t, tile(one.Zoom+1, 2*one.X+1, 2*one.Y), box(x, b.Low.Y, b.High.X, y))
		checkTileBox(t, tile(one.Zoom+1, 2*one.X, 2*one.Y+1), box(b.Low.X, y, x, b.High.Y))
		checkTileBox(t, tile(one.Zoom+1, 2*one.X+1, 2*one.Y+1), box(x, y, b.High.X, b.High.Y))
	}
}

func TestTilesOfOnePoint(t *testing.T) {
	for zoom := int64(1); zoom <= impl.MaxZoom; zoom++ {
		// The origin is a corner of four tiles at every zoom but the first.
		n := int64(1) << (zoom - 1)
		checkTiles(t, "a corner", box(0, 0, 0, 0), zoom, tile(zoom, n-1, n-1), tile(zoom, n, n-1), tile(zoom, n-1, n), tile(zoom, n, n))
		checkTiles(t, "an upright edge", box(0, 1, 0, 1), zoom, tile(zoom, n-1, n), tile(zoom, n, n))
		checkTiles(t, "an upright edge", box(0, -1, 0, -1), zoom, tile(zoom, n-1, n-1), tile(zoom, n, n-1))
		checkTiles(t, "a level edge", box(1, 0, 1, 0), zoom, tile(zoom, n, n-1), tile(zoom, n, n))
		checkTiles(t, "a level edge", box(-1, 0, -1, 0), zoom, tile(zoom, n-1, n-1), tile(zoom, n-1, n))
		checkTiles(t, "inside", box(1, 1, 1, 1), zoom, tile(zoom, n, n))
		checkTiles(t, "inside", box(-1, 1, -1, 1), zoom, tile(zoom, n-1, n))
		checkTiles(t, "inside", box(1, -1, 1, -1), zoom, tile(zoom, n, n-1))
		checkTiles(t, "inside", box(-1, -1, -1, -1), zoom, tile(zoom, n-1, n-1))
	}
	checkTiles(t, "the only tile", box(0, 0, 0, 0), 0, tile(0, 0, 0))
	checkTiles(t, "another corner", box(65536, -32768, 65536, -32768), 10, tile(10, 513, 510), tile(10, 514, 510), tile(10, 513, 511), tile(10, 514, 511))
	checkTiles(t, "one less", box(65535, -32769, 65535, -32769), 10, tile(10, 513, 510))
	checkTiles(t, "one more", box(65537, -32767, 65537, -32767), 10, tile(10, 514, 511))
	const m = impl.MaxCoord
	checkTiles(t, "the highest", box(m, m, m, m), 10, tile(10, 817, 817))
	checkTiles(t, "the lowest", box(-m, -m, -m, -m), 10, tile(10, 206, 206))
}

func TestTilesInOrder(t *testing.T) {
	checkTiles(t, "by Y, then by X", box(-1, -1, 32769, 32769), 10,
		tile(10, 511, 511), tile(10, 512, 511), tile(10, 513, 511),
		tile(10, 511, 512), tile(10, 512, 512), tile(10, 513, 512),
		tile(10, 511, 513), tile(10, 512, 513), tile(10, 513, 513))
	checkTiles(t, "edges belong to both", box(0, 0, 32768, 1), 10,
		tile(10, 511, 511), tile(10, 512, 511), tile(10, 513, 511), tile(10, 511, 512), tile(10, 512, 512), tile(10, 513, 512))
	checkTiles(t, "within one", box(1, 1, 32767, 32767), 10, tile(10, 512, 512))
	checkTiles(t, "wide", box(1, 5, 100000, 5), 10, tile(10, 512, 512), tile(10, 513, 512), tile(10, 514, 512), tile(10, 515, 512))
	checkTiles(t, "high", box(5, 1, 5, 100000), 10, tile(10, 512, 512), tile(10, 512, 513), tile(10, 512, 514), tile(10, 512, 515))
	four := []impl.Tile{tile(1, 0, 0), tile(1, 1, 0), tile(1, 0, 1), tile(1, 1, 1)}
	checkTiles(t, "all", wholePlane(), 0, tile(0, 0, 0))
	checkTiles(t, "all", wholePlane(), 1, four...)
}

func TestHowManyTiles(t *testing.T) {
	// Of all points there are 20 by 20 tiles at zoom 5: as many as may be; at zoom 6 there are more.
	for zoom := int64(0); zoom <= 5; zoom++ {
		checkTiles(t, "all", wholePlane(), zoom, tilesOf(wholePlane(), zoom)...)
	}
	if got := impl.TilesOf(wholePlane(), 5); len(got) != impl.MaxTiles {
		t.Error(len(got))
	}
	for zoom := int64(6); zoom <= impl.MaxZoom; zoom++ {
		checkTiles(t, "all", wholePlane(), zoom)
	}
	const side = 32768
	for _, c := range []struct{ wide, high int64 }{{400, 1}, {1, 400}, {20, 20}, {25, 16}, {8, 50}} {
		b := box(1-200*side, 1-200*side, (c.wide-200)*side-1, (c.high-200)*side-1)
		got := impl.TilesOf(b, 10)
		if len(got) != impl.MaxTiles || got[0] != tile(10, 312, 312) || got[399] != tile(10, 311+c.wide, 311+c.high) {
			t.Error(c, len(got))
		}
		// One step to the edge brings the next tiles in.
		for _, more := range []impl.Box{
			box(b.Low.X-1, b.Low.Y, b.High.X, b.High.Y), box(b.Low.X, b.Low.Y-1, b.High.X, b.High.Y),
			box(b.Low.X, b.Low.Y, b.High.X+1, b.High.Y), box(b.Low.X, b.Low.Y, b.High.X, b.High.Y+1),
		} {
			checkTiles(t, "too many", more, 10)
			checkTiles(t, "fewer at the zoom ahead", more, 9, tilesOf(more, 9)...)
		}
	}
	checkTiles(t, "401 in a line", box(1-200*side, 5, 201*side-1, 5), 10)
	checkTiles(t, "401 above each other", box(5, 1-200*side, 5, 201*side-1), 10)
}

func TestBoxesWithoutTiles(t *testing.T) {
	const m = impl.MaxCoord
	for _, zoom := range []int64{-1, impl.MaxZoom + 1, -10, 62, 63, 64, 65, math.MinInt64, math.MaxInt64} {
		checkTiles(t, "no zoom", box(0, 0, 0, 0), zoom)
		checkTiles(t, "no zoom", wholePlane(), zoom)
	}
	for _, zoom := range []int64{0, 1, 5, 10} {
		checkTiles(t, "Low above High in x", box(1, 0, 0, 5), zoom)
		checkTiles(t, "Low above High in y", box(0, 1, 5, 0), zoom)
		checkTiles(t, "Low above High in both", box(1, 1, 0, 0), zoom)
		checkTiles(t, "the greatest, turned", box(m, m, -m, -m), zoom)
		for _, p := range outside() {
			checkTiles(t, "no Low", impl.Box{Low: p, High: at(m, m)}, zoom)
			checkTiles(t, "no High", impl.Box{Low: at(-m, -m), High: p}, zoom)
			checkTiles(t, "neither", impl.Box{Low: p, High: p}, zoom)
		}
		checkTiles(t, "one beyond", box(-m-1, 0, -m, 0), zoom)
		checkTiles(t, "one beyond", box(0, -m-1, 0, -m), zoom)
		checkTiles(t, "one beyond", box(m, 0, m+1, 0), zoom)
		checkTiles(t, "one beyond", box(0, m, 0, m+1), zoom)
	}
}

func TestTilesOfAgainstTheWords(t *testing.T) {
	tell := numbers(63)
	none, some := 0, 0
	for i := range 3000 {
		zoom := tell.Int63n(11)
		side := int64(33554432) >> zoom
		b := someBox(tell, min([]int64{3, 2 * side, 12 * side, impl.MaxCoord}[i%4], impl.MaxCoord))
		if tell.Intn(2) == 0 {
			// Onto the edges, or one beside them.
			b.Low.X = b.Low.X/side*side + tell.Int63n(3) - 1
			b.Low.Y = b.Low.Y/side*side + tell.Int63n(3) - 1
		}
		if tell.Intn(2) == 0 {
			b.High.X = b.High.X/side*side + tell.Int63n(3) - 1
			b.High.Y = b.High.Y/side*side + tell.Int63n(3) - 1
		}
		want := tilesOf(b, zoom)
		checkTiles(t, "by chance", b, zoom, want...)
		if len(want) == 0 {
			none++
		} else if len(want) > 1 {
			some++
		}
	}
	if none < 100 || some < 500 {
		t.Error("too few of a kind:", none, some)
	}
}

// A point of a box lies in a tile that is told, and a tile that is told has a point of it.
func TestTilesHaveTheBox(t *testing.T) {
	tell := numbers(64)
	for range 2000 {
		b, zoom := someBox(tell, 300000), tell.Int63n(11)
		tiles := impl.TilesOf(b, zoom)
		if len(tiles) == 0 {
			continue
		}
		for _, p := range append(corners(b), at(b.Low.X+tell.Int63n(b.High.X-b.Low.X+1), b.Low.Y+tell.Int63n(b.High.Y-b.Low.Y+1))) {
			if !slices.ContainsFunc(tiles, func(one impl.Tile) bool { return lies(p, impl.TileBox(one)) }) {
				t.Fatal(b, zoom, p, "lies in none of", tiles)
			}
		}
		for _, one := range tiles {
			if own := impl.TileBox(one); apart(own.Low.X, own.High.X, b.Low.X, b.High.X) || apart(own.Low.Y, own.High.Y, b.Low.Y, b.High.Y) {
				t.Fatal(b, one)
			}
		}
	}
}
