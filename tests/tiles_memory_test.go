package tests

import (
	"math"
	"slices"
	"testing"

	"loop.example/g00024/impl"
)

// Promise 19, of chapter 6: every function answers at every argument and none panics; answers are new memory; arguments stay.

type boxAndZoom struct {
	Box  impl.Box
	Zoom int64
}

type rowAndTile struct {
	Row  []impl.Point
	Tile impl.Tile
}

type mapAndTile struct {
	Map  impl.Map
	Tile impl.Tile
}

type tileRead struct {
	Data impl.TileData
	Ok   bool
}

func askTiles(a boxAndZoom) []impl.Tile { return impl.TilesOf(a.Box, a.Zoom) }

func askClip(a rowAndBox) [][]impl.Point { return impl.Clip(a.Row, a.Box) }

func askQuantise(a rowAndTile) []impl.Point { return impl.Quantise(a.Row, a.Tile) }

func askTileOf(a mapAndTile) impl.TileData { return impl.TileOf(a.Map, a.Tile) }

func askReadTile(b []byte) tileRead {
	d, ok := impl.ReadTile(b)
	return tileRead{d, ok}
}

// tileDataToGuard are of each kind: none, rich, of maps, by chance, and such as can't be.
func tileDataToGuard() []impl.TileData {
	list := []impl.TileData{{}, richTile(), impl.TileOf(wideTown(), tile(10, 513, 512)), tileData(tile(10, 5, 5), lines(50)...)}
	tell := numbers(78)
	for range 60 {
		list = append(list, someTileData(tell))
	}
	for _, d := range badTiles() {
		points := 0
		for _, l := range d.Lines {
			points += len(l.Row)
		}
		if points+len(d.Lines) < 100 {
			list = append(list, d)
		}
	}
	return list
}

func TestRowsStayAndPiecesAreNew(t *testing.T) {
	tell := numbers(79)
	rows := append(placesToGuard(), path(5, 2, 25, 2, 25, 8, 5, 8, 5, -5, 8, -5, 8, 15), path(5, 5, 25, 5, 5, 5))
	for range 60 {
		rows = append(rows, wander(tell, tell.Intn(30), 12, frame()))
	}
	for _, row := range rows {
		for _, b := range []impl.Box{wholePlane(), frame(), box(0, 0, 2, 2), box(2, 2, 0, 0), box(1, 1, 1, 1)} {
			checkMemory(t, "Clip", rowAndBox{row, b}, askClip)
		}
		for _, one := range []impl.Tile{tile(0, 0, 0), tile(10, 512, 512), tile(10, 1024, 0), tile(-1, 0, 0)} {
			checkMemory(t, "Quantise", rowAndTile{row, one}, askQuantise)
		}
	}
	for zoom := int64(-1); zoom <= 11; zoom++ {
		checkMemory(t, "TilesOf", boxAndZoom{wholePlane(), zoom}, askTiles)
		checkMemory(t, "TilesOf", boxAndZoom{box(0, 0, 0, 0), zoom}, askTiles)
	}
}

func TestMapsStayAndTilesAreNew(t *testing.T) {
	tiles := []impl.Tile{tile(0, 0, 0), tile(10, 512, 512), tile(10, 511, 512), tile(10, 513, 513), tile(11, 0, 0)}
	for i, m := range append(mapsToGuard(), wideTown(), spread(town(), 3000), combs(30, true)) {
		for _, one := range tiles {
			checkMemory(t, "TileOf", mapAndTile{m, one}, askTileOf)
		}
		if impl.MapOk(m) && i%3 == 0 {
			checkMemory(t, "TileOf", mapAndTile{spread(m, 7000), tiles[1]}, askTileOf)
		}
	}
	for _, d := range tileDataToGuard() {
		checkMemory(t, "TileBytes", d, impl.TileBytes)
		checkMemory(t, "ReadTile", tileBytesOf(d), askReadTile)
	}
}

// What is put behind a piece, or into it, does not show in the next one.
func TestPiecesAreApart(t *testing.T) {
	row := path(5, 2, 25, 2, 25, 8, 5, 8, 5, -5, 8, -5, 8, 15)
	want := clipOf(row, frame())
	if len(want) != 3 {
		t.Fatal(want)
	}
	for i := range want {
		got := impl.Clip(row, frame())
		_ = append(got[i], at(77, 77), at(78, 78), at(79, 79))
		clear(got[i])
		for k := range got {
			if k != i && !slices.Equal(got[k], want[k]) {
				t.Error("piece", k, "changed with piece", i)
			}
		}
	}
	// Lines of one way have Tags of their own.
	m := combs(2, true)
	m.Ways[0].Tags, m.Ways[1].Tags = tags("a", "1", "b", "2"), tags("c", "3")
	one := tile(10, 512, 512)
	wanted := tileDataOf(m, one)
	got := impl.TileOf(m, one)
	got.Lines[0].Tags[0] = tag("z", "z")
	got.Lines[1].Row[0] = at(77, 77)
	got.Lines[3].Tags = append(got.Lines[3].Tags, tag("z", "z"))
	if !slices.Equal(got.Lines[1].Tags, wanted.Lines[1].Tags) || !slices.Equal(got.Lines[2].Tags, wanted.Lines[2].Tags) ||
		!slices.Equal(got.Lines[4].Tags, wanted.Lines[4].Tags) || !slices.Equal(got.Lines[0].Row, wanted.Lines[0].Row) ||
		!slices.Equal(got.Lines[2].Row, wanted.Lines[2].Row) || !slices.Equal(m.Ways[0].Tags, tags("a", "1", "b", "2")) {
		t.Error("a change of one list shows in another")
	}
}

// What was told before stays as it was, whatever is done to the arguments and to what is told later.
func TestTilesDoNotFollow(t *testing.T) {
	row, m, b, one := path(5, 2, 25, 2, 25, 8, 5, 8), wideTown(), tileBytesOf(richTile()), tile(10, 513, 512)
	type told struct {
		Tiles  []impl.Tile
		Pieces [][]impl.Point
		Places []impl.Point
		Data   impl.TileData
		Bytes  []byte
		Read   impl.TileData
	}
	ask := func() told {
		read, _ := impl.ReadTile(b)
		d := impl.TileOf(m, one)
		return told{impl.TilesOf(frame(), 10), impl.Clip(row, frame()), impl.Quantise(row, tile(10, 512, 512)), d, impl.TileBytes(d), read}
	}
	first := ask()
	kept, later := same(first), ask()
	clear(later.Tiles)
	clear(later.Pieces[0])
	clear(later.Places)
	clear(later.Data.Lines[1].Row)
	clear(later.Data.Lines[1].Tags)
	clear(later.Bytes)
	clear(later.Read.Lines[0].Tags)
	clear(later.Read.Lines[0].Row)
	clear(row)
	clear(b)
	for i := range m.Ways {
		clear(m.Ways[i].Tags)
		clear(m.Ways[i].Nodes)
	}
	if !slices.Equal(first.Tiles, kept.Tiles) || !sameRows(first.Pieces, kept.Pieces) || !slices.Equal(first.Places, kept.Places) ||
		!sameTileData(first.Data, kept.Data) || !slices.Equal(first.Bytes, kept.Bytes) || !sameTileData(first.Read, kept.Read) {
		t.Error("an answer changed with an argument, or with a later one")
	}
	if !sameTileData(first.Read, richTile()) {
		t.Error(first.Read)
	}
}

func TestTilesOfEveryKindAreAnswered(t *testing.T) {
	all := append(strange(), 2, 9, 10, 11, 512, 1023, 1024)
	for _, zoom := range all {
		for _, x := range all {
			for _, y := range all {
				one := tile(zoom, x, y)
				if impl.TileOk(one) != tileCanBe(one) {
					t.Fatal(one)
				}
				checkTileBox(t, one, tileBoxOf(one))
				checkQuantised(t, "strange", path(0, 0), one, quantiseOf(path(0, 0), one)...)
				if d := tileData(one, line(1, path(1, 1))); tileCanBe(one) {
					checkTileBytes(t, "strange", string(tileBytesOf(d)), d)
				} else {
					checkNoTileBytes(t, "strange", d)
				}
			}
		}
	}
}

func TestRowsInTilesOfEveryKindAreAnswered(t *testing.T) {
	tell := numbers(80)
	good := path(0, 0, 1, 1, 5, 5, 0, 1, 1, 0, -1, 0, 7, -7, impl.MaxCoord, 0, 32768, 32768)
	bad := strangePoints()
	pick := func() impl.Point {
		if tell.Intn(12) == 0 {
			return bad[tell.Intn(len(bad))]
		}
		return good[tell.Intn(len(good))]
	}
	zooms := append(strange(), 2, 3, 4, 5, 9, 10)
	for range 20000 {
		row := make([]impl.Point, tell.Intn(6))
		for i := range row {
			row[i] = pick()
		}
		b, zoom := impl.Box{Low: pick(), High: pick()}, zooms[tell.Intn(len(zooms))]
		if tell.Intn(3) == 0 {
			b = impl.Box{Low: bad[tell.Intn(len(bad))], High: bad[tell.Intn(len(bad))]}
		}
		one := someTile(tell)
		checkTiles(t, "strange", b, zoom, tilesOf(b, zoom)...)
		checkClip(t, "strange", row, b, clipOf(row, b)...)
		checkQuantised(t, "strange", row, one, quantiseOf(row, one)...)
		if t.Failed() {
			t.Fatal(row, b, zoom, one)
		}
	}
}

func TestTileDataOfEveryKindIsAnswered(t *testing.T) {
	tell := numbers(81)
	number := func() int64 {
		all := append(strange(), 1, 2, 3, 5, 4096, 4097, impl.MaxId, impl.MaxId+1)
		return all[tell.Intn(len(all))]
	}
	written := 0
	for seed := range int64(20000) {
		m := strangeMap(seed)
		d := someTileData(tell)
		for i := range d.Lines {
			l := &d.Lines[i]
			switch tell.Intn(8) {
			case 0:
				l.Way = number()
			case 1:
				l.Row = append(l.Row, at(number(), number()))
			case 2:
				if len(m.Nodes) > 0 {
					l.Tags = m.Nodes[0].Tags
				}
			}
		}
		if tell.Intn(8) == 0 {
			d.Tile = tile(number(), number(), number())
		}
		if b := tileBytesOf(d); tileDataCanBe(d) {
			written++
			checkTileBytes(t, "strange", string(b), d)
		} else {
			checkNoTileBytes(t, "strange", d)
			checkNoTileRead(t, "strange", b)
		}
		checkTileOf(t, "strange", m, d.Tile, tileDataOf(m, d.Tile))
		if t.Failed() {
			t.Fatal(d, m)
		}
	}
	if written < 5000 || written > 19000 {
		t.Error("too few of a kind:", written)
	}
	for _, d := range []impl.TileData{
		{Lines: make([]impl.Line, 1<<20)}, tileData(tile(0, 0, 0), line(1, make([]impl.Point, 1<<20))), {Lines: []impl.Line{{Way: 1, Tags: make([]impl.Tag, 1<<20)}}},
	} {
		checkNoTileBytes(t, "a great list", d)
	}
	checkTileOf(t, "a great list", impl.Map{Ways: make([]impl.Way, 1<<20)}, tile(0, 0, 0), impl.TileData{})
}

func TestTileBytesOfEveryKindAreAnswered(t *testing.T) {
	tell := numbers(82)
	read := 0
	for range 100000 {
		b := []byte("WMT1")
		for range tell.Intn(14) {
			if tell.Intn(4) == 0 {
				b = append(b, byte(tell.Intn(256)))
			} else {
				b = append(b, byte(tell.Intn(2)))
			}
		}
		want, wanted := readTileOf(b)
		if got, ok := impl.ReadTile(b); ok != wanted || !sameTileData(got, want) {
			t.Fatalf("%q: %v %v", b, ok, got)
		}
		read += count(wanted)
	}
	if read < 300 {
		t.Error("too few were read:", read)
	}
}

func TestTheSameTilesAreAnsweredAgain(t *testing.T) {
	tell := numbers(83)
	for range 200 {
		m, one, row := spread(someMap(tell), 9000), someTile(tell), wander(tell, 9, 30, frame())
		d := impl.TileOf(m, one)
		bytes, pieces, tiles := impl.TileBytes(d), impl.Clip(row, frame()), impl.TilesOf(box(-math.MaxInt16, 0, math.MaxInt16, 5), 10)
		impl.TileOf(wideTown(), tile(10, 512, 512))
		impl.Clip(path(9, 9, 800, 8), frame())
		impl.ReadTile(tileBytesOf(richTile()))
		for range 3 {
			checkTileOf(t, "again", m, one, d)
			checkTileBytes(t, "again", string(bytes), d)
			checkClip(t, "again", row, frame(), pieces...)
			checkTiles(t, "again", box(-math.MaxInt16, 0, math.MaxInt16, 5), 10, tiles...)
		}
	}
}
