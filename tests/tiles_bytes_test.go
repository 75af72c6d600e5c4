package tests

import (
	"math"
	"slices"
	"strconv"
	"strings"
	"testing"

	"loop.example/g00024/impl"
)

// Promise 6, of TileBytes and ReadTile: the bytes of a tile are read as it.

// checkTileBytes asks for both ways.
func checkTileBytes(t *testing.T, name string, want string, d impl.TileData) {
	t.Helper()
	if got := impl.TileBytes(d); string(got) != want {
		t.Errorf("%s: %.200q, not %.200q", name, got, want)
	}
	if got, ok := impl.ReadTile([]byte(want)); !ok || !sameTileData(got, d) {
		t.Errorf("%s: read %v as %s", name, ok, short(got))
	}
}

func checkNoTileBytes(t *testing.T, name string, d impl.TileData) {
	t.Helper()
	if got := impl.TileBytes(d); len(got) > 0 {
		t.Errorf("%s: written as %.200q", name, got)
	}
}

func checkNoTileRead(t *testing.T, name string, b []byte) {
	t.Helper()
	if got, ok := impl.ReadTile(b); ok || !sameTileData(got, impl.TileData{}) {
		t.Errorf("%s: %.200q was read: %v, %s", name, b, ok, short(got))
	}
}

// richTile has lines of each kind: without points and tags, with several of both, with differences to both sides.
func richTile() impl.TileData {
	return tileData(tile(8, 200, 130),
		line(300, path(5, 4096, 0, 0, 4096, 64, 4095, 63), "highway", "street", "name", "Mill Lane"),
		line(1, nil), line(1, path(0, 0)), line(impl.MaxId, nil, "a", " "), line(7, path(9, 9, 9, 9, 8, 8)))
}

func TestBytesOfTiles(t *testing.T) {
	checkTileBytes(t, "no lines", "WMT1\x00\x00\x00\x00", tileData(tile(0, 0, 0)))
	checkTileBytes(t, "no lines", "WMT1\x01\x01\x00\x00", tileData(tile(1, 1, 0)))
	checkTileBytes(t, "no lines", "WMT1\x03\x06\x07\x00", tileData(tile(3, 6, 7)))
	checkTileBytes(t, "the last tile", "WMT1\x0a\xff\x07\xff\x07\x00", tileData(tile(10, 1023, 1023)))
	checkTileBytes(t, "128", "WMT1\x08\x80\x01\x7f\x00", tileData(tile(8, 128, 127)))
	checkTileBytes(t, "a line without points", "WMT1\x00\x00\x00\x01\x05\x00\x00", tileData(tile(0, 0, 0), line(5, nil)))
	checkTileBytes(t, "a line of one point", "WMT1\x00\x00\x00\x01\x05\x01\x04\x06\x00", tileData(tile(0, 0, 0), line(5, path(2, 3))))
	checkTileBytes(t, "differences", "WMT1\x00\x00\x00\x01\x05\x03\x04\x06\x06\x05\x07\x00\x00", tileData(tile(0, 0, 0), line(5, path(2, 3, 5, 0, 1, 0))))
	checkTileBytes(t, "the same twice", "WMT1\x00\x00\x00\x01\x05\x02\x04\x06\x00\x00\x00", tileData(tile(0, 0, 0), line(5, path(2, 3, 2, 3))))
	checkTileBytes(t, "the greatest", "WMT1\x00\x00\x00\x01\x80\x94\xeb\xdc\x03\x03\x80\x40\x00\xff\x3f\x80\x40\x80\x40\xff\x3f\x00",
		tileData(tile(0, 0, 0), line(impl.MaxId, path(4096, 0, 0, 4096, 4096, 0))))
	checkTileBytes(t, "tags", "WMT1\x00\x00\x00\x01\x05\x00\x02\x01a\x03b c\x04name\x01~", tileData(tile(0, 0, 0), line(5, nil, "a", "b c", "name", "~")))
	// Each line begins anew, from 0; Ids need neither ascend nor differ.
	checkTileBytes(t, "several lines", "WMT1\x02\x01\x03\x03\x09\x01\x02\x04\x00\x02\x01\x02\x04\x01\x01k\x01v\x02\x00\x00",
		tileData(tile(2, 1, 3), line(9, path(1, 2)), line(2, path(1, 2), "k", "v"), line(2, nil)))
	checkTileBytes(t, "rich", string(tileBytesOf(richTile())), richTile())
}

func TestBytesOfPlaces(t *testing.T) {
	for n, want := range map[int64]string{
		0: "\x00", 1: "\x02", 63: "\x7e", 64: "\x80\x01", 127: "\xfe\x01", 128: "\x80\x02", 4095: "\xfe\x3f", 4096: "\x80\x40",
	} {
		checkTileBytes(t, "an X", "WMT1\x00\x00\x00\x01\x05\x01"+want+"\x00\x00", tileData(tile(0, 0, 0), line(5, path(n, 0))))
		checkTileBytes(t, "a Y", "WMT1\x00\x00\x00\x01\x05\x01\x00"+want+"\x00", tileData(tile(0, 0, 0), line(5, path(0, n))))
		checkTileBytes(t, "a next X", "WMT1\x00\x00\x00\x01\x05\x02\x00\x00"+want+"\x00\x00", tileData(tile(0, 0, 0), line(5, path(0, 0, n, 0))))
	}
	for n, want := range map[int64]string{1: "\x01", 2: "\x03", 64: "\x7f", 65: "\x81\x01", 4095: "\xfd\x3f", 4096: "\xff\x3f"} {
		checkTileBytes(t, "a next X", "WMT1\x00\x00\x00\x01\x05\x02\x80\x40\x00"+want+"\x00\x00", tileData(tile(0, 0, 0), line(5, path(4096, 0, 4096-n, 0))))
		checkTileBytes(t, "a next Y", "WMT1\x00\x00\x00\x01\x05\x02\x00\x80\x40\x00"+want+"\x00", tileData(tile(0, 0, 0), line(5, path(0, 4096, 0, 4096-n))))
	}
}

// places are that many, to and fro.
func places(count int) []impl.Point {
	row := make([]impl.Point, count)
	for i := range row {
		row[i] = at(int64(i)%(impl.Grid+1), int64(i)%2*impl.Grid)
	}
	return row
}

func lines(count int) []impl.Line {
	list := make([]impl.Line, count)
	for i := range list {
		list[i] = line(int64(i+1), path(5, 5))
	}
	return list
}

func TestBytesOfTilesWithAsMuchAsMayBe(t *testing.T) {
	for name, d := range map[string]impl.TileData{
		"MaxLines": tileData(tile(10, 5, 5), lines(impl.MaxLines)...),
		"MaxRow":   tileData(tile(10, 5, 5), line(1, places(impl.MaxRow))),
		"MaxTags":  tileData(tile(10, 5, 5), impl.Line{Way: 1, Tags: manyTags(impl.MaxTags)}),
		"MaxId":    tileData(tile(10, 5, 5), line(impl.MaxId, nil)),
		"MaxWord":  tileData(tile(10, 5, 5), line(1, nil, strings.Repeat("k", impl.MaxWord), strings.Repeat("v", impl.MaxValue))),
		"Grid":     tileData(tile(10, 5, 5), line(1, path(impl.Grid, impl.Grid, 0, 0))),
	} {
		checkTileBytes(t, name, string(tileBytesOf(d)), d)
	}
	if head := string(impl.TileBytes(tileData(tile(10, 5, 5), lines(impl.MaxLines)...))[:11]); head != "WMT1\x0a\x05\x05\xd0\x0f\x01\x01" {
		t.Errorf("%q", head)
	}
}

// badTiles has each thing for which the chapter says that there are no bytes, one by one, in each line of richTile.
func badTiles() map[string]impl.TileData {
	all := map[string]impl.TileData{
		"MaxLines + 1": tileData(tile(10, 5, 5), lines(impl.MaxLines+1)...),
		"many more":    tileData(tile(10, 5, 5), lines(1<<17)...),
	}
	for _, bad := range noTiles() {
		all["a tile "+short(bad)] = tileData(bad)
		d := richTile()
		d.Tile = bad
		all["a rich tile "+short(bad)] = d
	}
	for i := range richTile().Lines {
		put := func(name string, l impl.Line) {
			d := richTile()
			d.Lines[i] = l
			all[strconv.Itoa(i)+": "+name] = d
		}
		for _, id := range []int64{0, -1, impl.MaxId + 1, math.MaxInt64, math.MinInt64} {
			put("an Id "+short(id), line(id, path(1, 2), "a", "b"))
		}
		for _, n := range []int64{-1, impl.Grid + 1, math.MinInt64, math.MaxInt64, -4096, 2 * impl.Grid} {
			for k := range 3 {
				row := path(1, 2, 3, 4, 5, 6)
				row[k].X = n
				put("an X "+short(n)+" "+short(k), line(5, row))
				row = path(1, 2, 3, 4, 5, 6)
				row[k].Y = n
				put("a Y "+short(n)+" "+short(k), line(5, row))
			}
		}
		put("MaxRow + 1 points", line(5, places(impl.MaxRow+1)))
		put("many more points", line(5, places(1<<17)))
		for name, ts := range noTags() {
			put("tags: "+name, impl.Line{Way: 5, Row: path(1, 2), Tags: ts})
		}
	}
	return all
}

func TestNoBytesOfTilesThatCannotBe(t *testing.T) {
	for name, d := range badTiles() {
		checkNoTileBytes(t, name, d)
		checkNoTileRead(t, name, tileBytesOf(d))
		if tileDataCanBe(d) {
			t.Error(name, "can be")
		}
	}
	// What is empty is empty, be it nil or not.
	empty := tileData(tile(0, 0, 0), impl.Line{Way: 5, Row: []impl.Point{}, Tags: []impl.Tag{}})
	checkTileBytes(t, "empty lists", "WMT1\x00\x00\x00\x01\x05\x00\x00", empty)
	checkTileBytes(t, "empty lists", "WMT1\x00\x00\x00\x00", impl.TileData{Lines: []impl.Line{}})
}

func TestReadTileAtEachLength(t *testing.T) {
	for name, d := range map[string]impl.TileData{"rich": richTile(), "no lines": tileData(tile(10, 1023, 0)), "zero": {}, "town": impl.TileOf(wideTown(), tile(10, 513, 512))} {
		all := tileBytesOf(d)
		for n := range len(all) {
			checkNoTileRead(t, name+" cut off", all[:n])
		}
		for b := range 256 {
			checkNoTileRead(t, name+" and a byte more", append(slices.Clone(all), byte(b)))
		}
		checkNoTileRead(t, name+" twice", append(slices.Clone(all), all...))
		checkNoTileRead(t, name+" and a line more", append(slices.Clone(all), 5, 0, 0))
		for n := range len(all) {
			for _, b := range []byte{0, 1, 2, 127, 128, 255} {
				other := slices.Insert(slices.Clone(all), n, b)
				want, wanted := readTileOf(other)
				if got, ok := impl.ReadTile(other); ok != wanted || !sameTileData(got, want) {
					t.Errorf("%s: %q", name, other)
				}
			}
		}
	}
}

func TestReadTileWithAnotherBeginning(t *testing.T) {
	for _, b := range []string{"", "W", "WM", "WMT", "WMT2", "WMT0", "wmt1", "WMD1", "XMT1", "WXT1", "WMX1", " WMT1", "WMT\x01", "WMT1WMT1", "WWMT1", "TMW1"} {
		checkNoTileRead(t, "beginning", []byte(b))
		checkNoTileRead(t, "beginning", []byte(b+"\x00"))
		if b != "WMT" {
			checkNoTileRead(t, "beginning", []byte(b+"1\x00\x00\x00\x00"))
		}
		checkNoTileRead(t, "beginning", []byte(b+"\x00\x00\x00\x00"))
		checkNoTileRead(t, "beginning", []byte(b+string(tileBytesOf(richTile())[4:])))
	}
	checkNoTileRead(t, "nil", nil)
	checkNoTileRead(t, "without one", tileBytesOf(richTile())[4:])
	checkNoTileRead(t, "changes", impl.ChangeBytes(oneOfEach()))
	checkNotRead(t, "a tile is no changes", tileBytesOf(richTile()))
}

func TestReadTileWithLongNumbers(t *testing.T) {
	// Each form with a # for one number, and bytes that may stand there.
	for form, number := range map[string]string{
		"WMT1#\x00\x00\x00": "\x0a", "WMT1\x0a#\x00\x00": "\xff\x07", "WMT1\x0a\x00#\x00": "\x80\x01", "WMT1\x00\x00\x00#": "\x00",
		"WMT1\x00\x00\x00#\x05\x00\x00": "\x01", "WMT1\x00\x00\x00\x01#\x00\x00": "\x80\x94\xeb\xdc\x03", "WMT1\x00\x00\x00\x01\x05#\x00": "\x00",
		"WMT1\x00\x00\x00\x01\x05#\x02\x02\x00": "\x01", "WMT1\x00\x00\x00\x01\x05\x01#\x02\x00": "\x80\x40", "WMT1\x00\x00\x00\x01\x05\x01\x02#\x00": "\x06",
		"WMT1\x00\x00\x00\x01\x05\x02\x06\x06#\x02\x00": "\x05", "WMT1\x00\x00\x00\x01\x05\x02\x06\x06\x02#\x00": "\x01", "WMT1\x00\x00\x00\x01\x05\x00#": "\x00",
		"WMT1\x00\x00\x00\x01\x05\x00#\x01a\x01b": "\x01", "WMT1\x00\x00\x00\x01\x05\x00\x01#a\x01b": "\x01", "WMT1\x00\x00\x00\x01\x05\x00\x01\x01a#b": "\x01",
	} {
		if _, ok := impl.ReadTile([]byte(strings.Replace(form, "#", number, 1))); !ok {
			t.Errorf("%q was not read", form)
		}
		for _, wrong := range wrongNumbers(number) {
			checkNoTileRead(t, "a number", []byte(strings.Replace(form, "#", wrong, 1)))
		}
	}
}

func TestReadTileWithCountsThatAreTooGreat(t *testing.T) {
	for _, b := range []string{
		"WMT1\x00\x00\x00\x01", "WMT1\x00\x00\x00\x02\x05\x00\x00", "WMT1\x00\x00\x00\xd0\x0f\x05\x00\x00", "WMT1\x00\x00\x00\xd1\x0f\x05\x00\x00",
		"WMT1\x00\x00\x00\xff\xff\xff\xff\xff\xff\xff\xff\x7f\x05\x00\x00", "WMT1\x00\x00\x00\x01\x05\x01\x00", "WMT1\x00\x00\x00\x01\x05\x02\x00\x00\x00",
		"WMT1\x00\x00\x00\x01\x05\xff\xff\xff\xff\xff\xff\xff\xff\x7f\x00\x00\x00", "WMT1\x00\x00\x00\x01\x05\x00\x01\x01a", "WMT1\x00\x00\x00\x01\x05\x00\x02\x01a\x01b",
		"WMT1\x00\x00\x00\x01\x05\x00\x01\x02a\x01b", "WMT1\x00\x00\x00\x01\x05\x00\x01\x01a\x02b", "WMT1\x00\x00\x00\x01\x05\x00\xff\xff\xff\xff\xff\xff\xff\xff\x7f\x01a\x01b",
		"WMT1\x00\x00\x00\x01\x05\x00\x01\xff\xff\xff\xff\xff\xff\xff\xff\x7fa\x01b",
	} {
		checkNoTileRead(t, "a count", []byte(b))
	}
	checkNoTileRead(t, "far more lines", []byte("WMT1\x00\x00\x00\x80\x80\x40"+strings.Repeat("\x05\x00\x00", 1<<20)))
	checkNoTileRead(t, "far more points", []byte("WMT1\x00\x00\x00\x01\x05\x80\x80\x40"+strings.Repeat("\x00\x00", 1<<20)+"\x00"))
	// Differences that pass all numbers come back to where they were, but are written otherwise.
	round := strings.Repeat("\xfe\xff\xff\xff\xff\xff\xff\xff\x7f\x00", 4)
	checkNoTileRead(t, "all round", []byte("WMT1\x00\x00\x00\x01\x05\x05"+round+"\x08\x00\x00"))
}

func TestTilesWrittenByChance(t *testing.T) {
	tell := numbers(71)
	for range 20000 {
		d := someTileData(tell)
		checkTileBytes(t, "by chance", string(tileBytesOf(d)), d)
		if t.Failed() {
			t.FailNow()
		}
	}
}

func TestTilesReadByChance(t *testing.T) {
	tell := numbers(72)
	read := 0
	for range 60000 {
		b := shakenBytes(tell, tileBytesOf(someTileData(tell)))
		want, wanted := readTileOf(b)
		got, ok := impl.ReadTile(b)
		if ok != wanted || !sameTileData(got, want) {
			t.Fatalf("%q: %v %v, not %v %v", b, ok, got, wanted, want)
		}
		if ok {
			read++
			if again := impl.TileBytes(got); !slices.Equal(again, b) {
				t.Fatalf("%q is written again as %q", b, again)
			}
		}
	}
	if read < 10000 || read > 50000 {
		t.Error("chance was of no help:", read)
	}
}

// The bytes of every tile of a map are read as that tile.
func TestTilesOfMapsAreReadAsTheyAre(t *testing.T) {
	tell := numbers(73)
	for i := range 3000 {
		d := impl.TileOf(spread(someMap(tell), []int64{1, 3000, 30000, 1000000}[i%4]), someTile(tell))
		checkTileBytes(t, "of a map", string(tileBytesOf(d)), d)
	}
}
