package tests

import (
	"encoding/binary"
	"math/big"
	"slices"

	"loop.example/g00024/impl"
)

// Chapter 6 reckoned once more from its words: the axes are gone through by number, parts of stretches are fractions.

func tileCanBe(t impl.Tile) bool {
	count := int64(1)
	for range min(max(t.Zoom, 0), 20) {
		count *= 2
	}
	return t.Zoom >= 0 && t.Zoom <= 10 && t.X >= 0 && t.Y >= 0 && t.X < count && t.Y < count
}

// tileEdges goes down from the whole plane by halves, a bit of the number a zoom.
func tileEdges(zoom int64, n int64) (int64, int64) {
	low, side := int64(-16777216), int64(33554432)
	for k := zoom - 1; k >= 0; k-- {
		side /= 2
		if n>>k%2 == 1 {
			low += side
		}
	}
	return low, low + side
}

func tileBoxOf(t impl.Tile) impl.Box {
	if !tileCanBe(t) {
		return impl.Box{}
	}
	west, east := tileEdges(t.Zoom, t.X)
	south, north := tileEdges(t.Zoom, t.Y)
	return box(west, south, east, north)
}

// tilesAlongOf asks every tile of a zoom along one axis.
func tilesAlongOf(low int64, high int64, zoom int64) []int64 {
	var all []int64
	for n := range int64(1) << zoom {
		if from, to := tileEdges(zoom, n); !apart(low, high, from, to) {
			all = append(all, n)
		}
	}
	return all
}

func tilesOf(b impl.Box, zoom int64) []impl.Tile {
	if !canBe(b.Low) || !canBe(b.High) || b.Low.X > b.High.X || b.Low.Y > b.High.Y || zoom < 0 || zoom > 10 {
		return nil
	}
	var tiles []impl.Tile
	columns, rows := tilesAlongOf(b.Low.X, b.High.X, zoom), tilesAlongOf(b.Low.Y, b.High.Y, zoom)
	if len(columns)*len(rows) > 400 {
		return nil
	}
	for _, y := range rows {
		for _, x := range columns {
			tiles = append(tiles, tile(zoom, x, y))
		}
	}
	return tiles
}

// spot is a point of which the coordinates are told by number: 0 for X, 1 for Y.
type spot [2]int64

func spotOf(p impl.Point) spot { return spot{p.X, p.Y} }

func rounded(n *big.Rat) int64 {
	return new(big.Int).Div(n.Num(), n.Denom()).Int64()
}

// heightAt is the exact other coordinate of the place of a stretch at which that axis has e.
func heightAt(a spot, b spot, axis int, e int64) *big.Rat {
	part := big.NewRat(e-a[axis], b[axis]-a[axis])
	rise := new(big.Rat).Mul(part, new(big.Rat).SetInt64(b[1-axis]-a[1-axis]))
	return rise.Add(rise, new(big.Rat).SetInt64(a[1-axis]))
}

func crossingOf(a spot, b spot, axis int, e int64) spot {
	var c spot
	c[axis], c[1-axis] = e, rounded(heightAt(a, b, axis, e))
	return c
}

// straightMoves counts the ends that had no crossing to go to.
var straightMoves int

// partOf has the words' steps one by one; it answers nothing where nothing is left, or it does not count.
func partOf(a spot, b spot, low spot, high spot) []spot {
	ends := []spot{a, b}
	for axis := range 2 {
		for side, e := range []int64{low[axis], high[axis]} {
			beyond := func(n int64) bool { return side == 0 && n < e || side == 1 && n > e }
			if beyond(ends[0][axis]) && beyond(ends[1][axis]) {
				return nil
			}
			oneSide := a[axis] < e && b[axis] < e || a[axis] > e && b[axis] > e || a[axis] == e && b[axis] == e
			for i := range ends {
				if !beyond(ends[i][axis]) {
					continue
				}
				if oneSide {
					straightMoves++
					ends[i][axis] = e
				} else {
					ends[i] = crossingOf(a, b, axis, e)
				}
			}
		}
	}
	for i := range ends {
		for axis := range 2 {
			ends[i][axis] = min(max(ends[i][axis], low[axis]), high[axis])
		}
	}
	if ends[0] == ends[1] && a != b {
		return nil
	}
	return ends
}

func clipOf(row []impl.Point, b impl.Box) [][]impl.Point {
	if !rowCanBe(row) || b.Low.X > b.High.X || b.Low.Y > b.High.Y {
		return nil
	}
	var rows [][]impl.Point
	var ahead []spot
	for i := range max(len(row)-1, 0) {
		part := partOf(spotOf(row[i]), spotOf(row[i+1]), spotOf(b.Low), spotOf(b.High))
		if part != nil {
			if ahead == nil || ahead[1] != part[0] {
				rows = append(rows, path(part[0][0], part[0][1]))
			}
			rows[len(rows)-1] = append(rows[len(rows)-1], at(part[1][0], part[1][1]))
		}
		ahead = part
	}
	return rows
}

func quantiseOf(row []impl.Point, t impl.Tile) []impl.Point {
	b := tileBoxOf(t)
	if !rowCanBe(row) || !tileCanBe(t) || slices.ContainsFunc(row, func(p impl.Point) bool { return !lies(p, b) }) {
		return nil
	}
	side := b.High.X - b.Low.X
	var places []impl.Point
	for i, p := range row {
		q := at(floorShare(p.X-b.Low.X, 4096, side), floorShare(p.Y-b.Low.Y, 4096, side))
		if i == 0 || q != places[len(places)-1] {
			places = append(places, q)
		}
	}
	return places
}

func tileDataOf(m impl.Map, t impl.Tile) impl.TileData {
	if !mapCanBe(m) || !tileCanBe(t) {
		return impl.TileData{}
	}
	d := tileData(t)
	for _, w := range m.Ways {
		for _, piece := range clipOf(rowOf(m, w.Id), tileBoxOf(t)) {
			d.Lines = append(d.Lines, impl.Line{Way: w.Id, Row: quantiseOf(piece, t), Tags: w.Tags})
		}
	}
	d.Lines = d.Lines[:min(len(d.Lines), 2000)]
	return d
}

// tileBytesOf writes whatever it is given, whether it can be or not.
func tileBytesOf(d impl.TileData) []byte {
	b := []byte("WMT1")
	for _, n := range []int64{d.Tile.Zoom, d.Tile.X, d.Tile.Y, int64(len(d.Lines))} {
		b = binary.AppendUvarint(b, uint64(n))
	}
	for _, l := range d.Lines {
		b = binary.AppendUvarint(b, uint64(l.Way))
		b = binary.AppendUvarint(b, uint64(len(l.Row)))
		for i, p := range l.Row {
			if i > 0 {
				p = at(p.X-l.Row[i-1].X, p.Y-l.Row[i-1].Y)
			}
			b = binary.AppendVarint(binary.AppendVarint(b, p.X), p.Y)
		}
		b = tagBytesOf(b, l.Tags)
	}
	return b
}

// tileDataCanBe asks all for which the chapter says that there are no bytes.
func tileDataCanBe(d impl.TileData) bool {
	ok := tileCanBe(d.Tile) && len(d.Lines) <= 2000
	for _, l := range d.Lines {
		ok = ok && idCanBe(l.Way) && len(l.Row) <= 2000 && tagsCanBe(l.Tags)
		for _, p := range l.Row {
			ok = ok && lies(p, box(0, 0, 4096, 4096))
		}
	}
	return ok
}

func (b *bytesToRead) line() impl.Line {
	l := impl.Line{Way: int64(b.number())}
	last := at(0, 0)
	for n := b.number(); n > 0 && !b.bad; n-- {
		last.X += b.signed()
		last.Y += b.signed()
		l.Row = append(l.Row, last)
	}
	l.Tags = b.tags()
	return l
}

// readTileOf takes what has the form of a tile's data, and then asks whether that can be, and these are its bytes.
func readTileOf(all []byte) (impl.TileData, bool) {
	if len(all) < 4 || string(all[:4]) != "WMT1" {
		return impl.TileData{}, false
	}
	b := bytesToRead{left: all[4:]}
	var d impl.TileData
	for _, n := range []*int64{&d.Tile.Zoom, &d.Tile.X, &d.Tile.Y} {
		*n = int64(b.number())
	}
	for n := b.number(); n > 0 && !b.bad; n-- {
		d.Lines = append(d.Lines, b.line())
	}
	if b.bad || len(b.left) > 0 || !tileDataCanBe(d) || !slices.Equal(tileBytesOf(d), all) {
		return impl.TileData{}, false
	}
	return d, true
}
