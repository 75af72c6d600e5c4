package tests

import (
	"slices"
	"testing"

	"loop.example/g00024/impl"
)

// Promise 6, of Quantise and TileOf: places in a tile, and what of a map lies there.

func TestQuantise(t *testing.T) {
	one := tile(10, 512, 512) // (0, 0) to (32768, 32768): 8 to a place
	checkQuantised(t, "the corners", path(0, 0, 32768, 0, 32768, 32768, 0, 32768), one, path(0, 0, 4096, 0, 4096, 4096, 0, 4096)...)
	checkQuantised(t, "one from the corners", path(1, 1, 32767, 1, 32767, 32767, 1, 32767), one, path(0, 0, 4095, 0, 4095, 4095, 0, 4095)...)
	checkQuantised(t, "rounded down", path(7, 8, 15, 16, 16, 15), one, path(0, 1, 1, 2, 2, 1)...)
	checkQuantised(t, "no points", nil, one)
	checkQuantised(t, "no points", []impl.Point{}, one)
	checkQuantised(t, "one point", path(100, 200), one, at(12, 25))
	low := tile(10, 511, 510) // (-32768, -65536) to (0, -32768)
	checkQuantised(t, "below 0", path(-32768, -65536, 0, -32768, -1, -32769, -32761, -65529), low, path(0, 0, 4096, 4096, 4095, 4095, 0, 0)...)
	whole := tile(0, 0, 0) // 8192 to a place
	const m = impl.MaxCoord
	checkQuantised(t, "the whole plane", path(0, 0, -1, -1, m, m, -m, -m, m, -m, 8191, 8192), whole, path(2048, 2048, 2047, 2047, 3268, 3268, 827, 827, 3268, 827, 2048, 2049)...)
	for zoom := int64(1); zoom <= impl.MaxZoom; zoom++ {
		n, place := int64(1)<<(zoom-1), int64(8192)>>zoom
		checkQuantised(t, "a place", path(place, 5*place, 2*place-1, 6*place-1), tile(zoom, n, n), at(1, 5))
		checkQuantised(t, "beside it", path(place-1, 5*place, place, 5*place-1), tile(zoom, n, n), path(0, 5, 1, 4)...)
	}
}

func TestPlacesThatBecomeTheSame(t *testing.T) {
	one := tile(10, 512, 512)
	checkQuantised(t, "beside each other", path(0, 0, 7, 7, 8, 8), one, path(0, 0, 1, 1)...)
	checkQuantised(t, "three", path(0, 0, 7, 7, 3, 3, 8, 8, 9, 8, 15, 15), one, path(0, 0, 1, 1)...)
	checkQuantised(t, "all", path(0, 0, 7, 7, 3, 3), one, at(0, 0))
	checkQuantised(t, "not beside each other", path(0, 0, 8, 8, 7, 7, 15, 15), one, path(0, 0, 1, 1, 0, 0, 1, 1)...)
	checkQuantised(t, "in X alone", path(0, 0, 7, 8), one, path(0, 0, 0, 1)...)
	checkQuantised(t, "in Y alone", path(0, 0, 8, 7), one, path(0, 0, 1, 0)...)
	checkQuantised(t, "at its end", path(80, 80, 0, 0, 7, 7), one, path(10, 10, 0, 0)...)
	var slow []impl.Point
	for i := range int64(impl.MaxRow) {
		slow = append(slow, at(i, 0))
	}
	if got := impl.Quantise(slow, one); len(got) != impl.MaxRow/8 || got[249] != at(249, 0) {
		t.Error(len(got))
	}
	var quick []impl.Point
	for i := range int64(impl.MaxRow) {
		quick = append(quick, at(i%2*8, 0))
	}
	if got := impl.Quantise(quick, one); len(got) != impl.MaxRow {
		t.Error(len(got))
	}
}

func TestNoPlaces(t *testing.T) {
	one := tile(10, 512, 512)
	for _, p := range path(-1, 5, 5, -1, 32769, 5, 5, 32769, -1, -1, 32769, 32769, 5, -40000, impl.MaxCoord, impl.MaxCoord) {
		for i := range 3 {
			row := path(0, 0, 9, 9, 20, 20)
			row[i] = p
			checkQuantised(t, "beyond", row, one)
		}
		checkQuantised(t, "beyond, alone", []impl.Point{p}, one)
	}
	for _, bad := range noTiles() {
		checkQuantised(t, "no tile", path(0, 0), bad)
		checkQuantised(t, "no tile", path(1, 1, 2, 2), bad)
		checkQuantised(t, "no tile, no points", nil, bad)
	}
	for _, row := range noRows() {
		checkQuantised(t, "no row", row, tile(0, 0, 0))
		checkQuantised(t, "no row", row, one)
	}
	// Such a point lies in the tile, but can't be.
	for _, p := range path(impl.MaxCoord+1, 0, 0, impl.MaxCoord+1, -impl.MaxCoord-1, 0, 16777216, 16777216) {
		checkQuantised(t, "no point", []impl.Point{at(0, 0), p}, tile(0, 0, 0))
	}
}

func TestQuantiseAgainstTheWords(t *testing.T) {
	tell := numbers(68)
	fewer := 0
	for i := range 10000 {
		one := someTile(tell)
		b := tileBoxOf(one)
		size := b.High.X - b.Low.X
		row := make([]impl.Point, tell.Intn(8))
		for k := range row {
			row[k] = at(b.Low.X+tell.Int63n(size+1), b.Low.Y+tell.Int63n(size+1))
			if k > 0 && tell.Intn(2) == 0 {
				row[k] = at(row[k-1].X+tell.Int63n(size/4096), row[k-1].Y+tell.Int63n(size/4096))
			}
		}
		if i%10 == 0 && len(row) > 0 {
			row[tell.Intn(len(row))] = at(b.High.X+1, b.Low.Y)
		}
		want := quantiseOf(row, one)
		checkQuantised(t, "by chance", row, one, want...)
		if 0 < len(want) && len(want) < len(row) {
			fewer++
		}
	}
	if fewer < 500 {
		t.Error("too few became the same:", fewer)
	}
}

// wideTown has town's ways over the tiles of zoom 10 around the origin.
func wideTown() impl.Map { return spread(town(), 4000) }

func TestTileOf(t *testing.T) {
	// The nodes 1 to 5 lie at (0, 0), (40000, 0), (40000, 40000), (0, 40000), (80000, 40000); a tile's side is 32768.
	street := []string{"highway", "street", "name", "Mill Lane"}
	checkTileOf(t, "the first", wideTown(), tile(10, 512, 512), tileData(tile(10, 512, 512),
		line(1, path(0, 0, 4096, 0)),
		line(6, path(0, 4096, 0, 0)),
		// Away and back the same way: one row.
		line(12, path(904, 4096, 4096, 904, 904, 4096))))
	checkTileOf(t, "to the east", wideTown(), tile(10, 513, 512), tileData(tile(10, 513, 512),
		line(1, path(0, 0, 904, 0)),
		line(5, path(904, 0, 904, 4096), street...),
		line(12, path(0, 904, 904, 0, 0, 904))))
	checkTileOf(t, "to the northeast", wideTown(), tile(10, 513, 513), tileData(tile(10, 513, 513),
		line(5, path(904, 0, 904, 904), street...),
		line(6, path(904, 904, 0, 904)),
		line(9, path(904, 904, 4096, 904, 904, 904, 4096, 904), "highway", "main")))
	checkTileOf(t, "an edge alone", wideTown(), tile(10, 512, 511), tileData(tile(10, 512, 511), line(1, path(0, 4096, 4096, 4096))))
	checkTileOf(t, "a corner alone", wideTown(), tile(10, 511, 511), tileData(tile(10, 511, 511)))
	checkTileOf(t, "nothing", wideTown(), tile(10, 7, 7), tileData(tile(10, 7, 7)))
	checkTileOf(t, "no ways", blank(9, 0, 0), tile(10, 512, 512), tileData(tile(10, 512, 512)))
	checkTileOf(t, "the empty map", impl.Map{}, tile(3, 1, 2), tileData(tile(3, 1, 2)))
	checkTileOf(t, "all", wideTown(), tile(0, 0, 0), tileDataOf(wideTown(), tile(0, 0, 0)))
	if got := impl.TileOf(wideTown(), tile(0, 0, 0)); len(got.Lines) != 5 || len(got.Lines[3].Row) != 4 || got.Lines[1].Tags[1] != tag("name", "Mill Lane") {
		t.Error(got)
	}
}

// A way that stays at a place is a line of one place; one that is short is too.
func TestLinesOfOnePlace(t *testing.T) {
	m := impl.Map{
		Nodes: []impl.Node{node(1, 100, 100), node(2, 100, 100), node(3, 101, 101), node(4, -100, 100), node(5, 0, 200), node(6, 0, 200)},
		Ways:  []impl.Way{way(1, 1, 2), way(2, 1, 3, 1), way(3, 4, 5), way(4, 5, 6), way(5, 4, 1)},
	}
	checkTileOf(t, "one place", m, tile(10, 512, 512), tileData(tile(10, 512, 512),
		line(1, path(12, 12)), line(2, path(12, 12)), line(4, path(0, 25)), line(5, path(0, 12, 12, 12))))
	checkTileOf(t, "one place", m, tile(10, 511, 512), tileData(tile(10, 511, 512),
		line(3, path(4083, 12, 4096, 25)), line(4, path(4096, 25)), line(5, path(4083, 12, 4096, 12))))
}

func TestNoTileOfWhatCannotBe(t *testing.T) {
	for _, bad := range noTiles() {
		checkTileOf(t, "no tile", wideTown(), bad, impl.TileData{})
		checkTileOf(t, "no tile", impl.Map{}, bad, impl.TileData{})
	}
	eachFault(func(name string, m impl.Map) {
		checkTileOf(t, name, m, tile(1, 1, 1), impl.TileData{})
		checkTileOf(t, name, m, tile(0, 0, 0), impl.TileData{})
	})
	checkTileOf(t, "neither", impl.Map{Ways: []impl.Way{way(1, 1, 2)}}, tile(9, -1, 0), impl.TileData{})
	for _, n := range strange() {
		if n != 0 {
			checkTileOf(t, "no tile", wideTown(), tile(0, n, 0), impl.TileData{})
			checkTileOf(t, "no tile", wideTown(), tile(0, 0, n), impl.TileData{})
		}
		if n < 0 || n > 10 {
			checkTileOf(t, "no tile", wideTown(), tile(n, 0, 0), impl.TileData{})
		}
	}
}

// combs are that many ways, each with two rows in the tile 10, 512, 512, and one more row for the first of them if it is asked.
func combs(count int, more bool) impl.Map {
	m := impl.Map{Nodes: []impl.Node{
		node(1, 100, 100), node(2, -100, 100), node(3, -100, 300), node(4, 100, 300), node(5, -100, 500), node(6, -100, 700), node(7, 100, 700),
	}}
	for i := range int64(count) {
		w := way(i+1, 1, 2, 3, 4)
		if i == 0 && more {
			w.Nodes = append(w.Nodes, 5, 6, 7)
		}
		m.Ways = append(m.Ways, w)
	}
	return m
}

func TestHowManyLines(t *testing.T) {
	one := tile(10, 512, 512)
	met, passed := impl.TileOf(combs(impl.MaxWays, false), one), impl.TileOf(combs(impl.MaxWays, true), one)
	if len(met.Lines) != impl.MaxLines || met.Lines[1998].Way != 1000 || met.Lines[1999].Way != 1000 || !slices.Equal(met.Lines[1999].Row, path(0, 37, 12, 37)) {
		t.Error(len(met.Lines))
	}
	// The first has three rows, so of the last one there is room for one alone.
	if len(passed.Lines) != impl.MaxLines || passed.Lines[2].Way != 1 || passed.Lines[1999].Way != 1000 || !slices.Equal(passed.Lines[1999].Row, path(12, 12, 0, 12)) {
		t.Error(len(passed.Lines))
	}
	if !sameTileData(met, tileDataOf(combs(impl.MaxWays, false), one)) || !sameTileData(passed, tileDataOf(combs(impl.MaxWays, true), one)) {
		t.Error("otherwise than the words")
	}
	if got := impl.TileOf(combs(impl.MaxWays-1, true), one); len(got.Lines) != impl.MaxLines-1 {
		t.Error(len(got.Lines))
	}
	for _, d := range []impl.TileData{met, passed} {
		if back, ok := impl.ReadTile(impl.TileBytes(d)); !ok || !sameTileData(back, d) {
			t.Error("is not read as it was written")
		}
	}
}

// The greatest map, of which each way goes to and fro over one edge in MaxRow points.
func TestTileOfTheGreatestMap(t *testing.T) {
	m := spread(full(), 2000)
	got := impl.TileOf(m, tile(10, 512, 512))
	if len(got.Lines) != 17 || got.Lines[0].Way != 1 || len(got.Lines[15].Row) != impl.MaxRow || len(got.Lines[16].Row) != impl.MaxRow || got.Lines[16].Row[1] != at(4096, 0) {
		t.Error(len(got.Lines))
	}
	if back, ok := impl.ReadTile(impl.TileBytes(got)); !ok || !sameTileData(back, got) {
		t.Error("is not read as it was written")
	}
	if got := impl.TileOf(m, tile(0, 0, 0)); len(got.Lines) != impl.MaxWays {
		t.Error(len(got.Lines))
	}
}

func TestTileOfAgainstTheWords(t *testing.T) {
	tell := numbers(69)
	lines := 0
	for i := range 4000 {
		m := spread(someMap(tell), []int64{1, 3000, 30000, 1000000}[i%4])
		if i%9 == 0 {
			m = shaken(tell, m)
		}
		one := someTile(tell)
		want := tileDataOf(m, one)
		checkTileOf(t, "by chance", m, one, want)
		lines += len(want.Lines)
	}
	if lines < 3000 {
		t.Error("too few lines:", lines)
	}
}

// A tile of changed data is the tile of the new map, whether the changes were sent or not.
func TestTilesOfChangedMaps(t *testing.T) {
	tell := numbers(70)
	differ := 0
	for i := range 1500 {
		by := []int64{1, 3000, 30000, 1000000}[i%4]
		from, to := spread(someMap(tell), by), spread(someMap(tell), by)
		cs := impl.Diff(from, to)
		changed, ok := impl.Apply(from, cs)
		sent, read := impl.ReadChanges(impl.ChangeBytes(cs))
		days := impl.History(from, [][]impl.Change{nil, sent, impl.Diff(to, from)})
		if !ok || !read || len(days) != 3 {
			t.Fatal(from, to)
		}
		for range 4 {
			one := someTile(tell)
			want := tileDataOf(to, one)
			checkTileOf(t, "changed", changed, one, want)
			checkTileOf(t, "sent", days[1], one, want)
			checkTileOf(t, "back again", days[2], one, tileDataOf(from, one))
			if !sameTileData(want, tileDataOf(from, one)) {
				differ++
			}
		}
		if t.Failed() {
			t.FailNow()
		}
	}
	if differ < 1000 {
		t.Error("too few tiles were changed:", differ)
	}
}

func TestTheTileOfOneChange(t *testing.T) {
	m := wideTown()
	next, ok := impl.Apply(m, []impl.Change{putNode(node(2, 16000, -16000)), cutArea(1), cutWay(5), putWay(way(7, 2, 4))})
	if !ok {
		t.Fatal(next)
	}
	checkTileOf(t, "the first", next, tile(10, 512, 512), tileData(tile(10, 512, 512),
		line(6, path(0, 4096, 0, 0)), line(7, path(1428, 0, 258, 4096)), line(12, path(258, 4096, 1428, 0, 258, 4096))))
	checkTileOf(t, "the old one", m, tile(10, 512, 512), tileDataOf(wideTown(), tile(10, 512, 512)))
}
