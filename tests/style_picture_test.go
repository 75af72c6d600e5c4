package tests

import (
	"math"
	"slices"
	"strings"
	"testing"

	"loop.example/g00024/impl"
)

// Promise 7, of Picture: what is drawn stands where its row goes, the later above the earlier.

func TestPictureOfNothing(t *testing.T) {
	checkPicture(t, "no strokes", nil, "  ", "  ")
	checkPicture(t, "no strokes", []impl.Stroke{}, " ")
	checkPicture(t, "no points", []impl.Stroke{inked("red"), {Colour: "red", Row: []impl.Point{}}}, "   ", "   ", "   ")
	checkPicture(t, "no colour", []impl.Stroke{inked("", 0, 0, 4096, 4096)}, "  ", "  ")
}

func TestSizesOfPictures(t *testing.T) {
	ss := []impl.Stroke{inked("x", 0, 0)}
	for size := int64(1); size <= impl.MaxPicture; size++ {
		got := impl.Picture(ss, size)
		if int64(len(got)) != size {
			t.Fatal(size, len(got))
		}
		for i, text := range got {
			want := strings.Repeat(" ", int(size))
			if i == int(size)-1 {
				want = "x" + want[1:]
			}
			if text != want {
				t.Fatalf("%d: %q", size, text)
			}
		}
	}
	for _, size := range append(strange(), 257, 258, -256, 1000) {
		if size != 1 {
			checkNoPicture(t, "no size", ss, size)
			checkNoPicture(t, "no size", nil, size)
		}
	}
}

func TestDots(t *testing.T) {
	checkPicture(t, "one cell", []impl.Stroke{inked("x", 4096, 4096)}, "x")
	checkPicture(t, "southwest", []impl.Stroke{inked("x", 0, 0)}, "   ", "   ", "x  ")
	checkPicture(t, "southeast", []impl.Stroke{inked("x", 4096, 0)}, "   ", "   ", "  x")
	checkPicture(t, "northwest", []impl.Stroke{inked("x", 0, 4096)}, "x  ", "   ", "   ")
	checkPicture(t, "northeast", []impl.Stroke{inked("x", 4096, 4096)}, "  x", "   ", "   ")
	checkPicture(t, "the middle", []impl.Stroke{inked("x", 2048, 2048)}, "   ", " x ", "   ")
	checkPicture(t, "the same point again", []impl.Stroke{inked("x", 2048, 2048, 2048, 2048, 2048, 2048)}, "   ", " x ", "   ")
	// Of 4097 places, with four cells: 1025, 1024, 1024, 1024.
	for cell, ends := range [][2]int64{{0, 1024}, {1025, 2048}, {2049, 3072}, {3073, 4096}} {
		across := []byte("    ")
		across[cell] = 'x'
		up := []string{"    ", "    ", "    ", "    "}
		up[3-cell] = "x   "
		for _, n := range []int64{ends[0], ends[0] + 1, ends[1] - 1, ends[1]} {
			checkPicture(t, "across", []impl.Stroke{inked("x", n, 0)}, "    ", "    ", "    ", string(across))
			checkPicture(t, "up", []impl.Stroke{inked("x", 0, n)}, up...)
		}
	}
}

// The first of the four cells has a place more than the others: on the way down the slant is in two cells of most lines.
func TestLinesInPictures(t *testing.T) {
	checkPicture(t, "level", []impl.Stroke{inked("x", 0, 0, 4096, 0)}, "    ", "    ", "    ", "xxxx")
	checkPicture(t, "level, in part", []impl.Stroke{inked("x", 1025, 2049, 3072, 2049)}, "    ", " xx ", "    ", "    ")
	checkPicture(t, "upright", []impl.Stroke{inked("x", 4096, 0, 4096, 4096)}, "   x", "   x", "   x", "   x")
	checkPicture(t, "upright, in part", []impl.Stroke{inked("x", 0, 1024, 0, 1025)}, "    ", "    ", "x   ", "x   ")
	checkPicture(t, "slanted", []impl.Stroke{inked("x", 0, 0, 4096, 4096)}, "   x", "  x ", " x  ", "x   ")
	checkPicture(t, "slanted down", []impl.Stroke{inked("x", 0, 4096, 4096, 0)}, "x   ", "xx  ", " xx ", "  xx")
	checkPicture(t, "flat", []impl.Stroke{inked("x", 0, 0, 4096, 2048)}, "    ", "    ", "  xx", "xxx ")
	checkPicture(t, "steep", []impl.Stroke{inked("x", 0, 0, 2048, 4096)}, " x  ", "xx  ", "x   ", "x   ")
	checkPicture(t, "round", []impl.Stroke{inked("x", 0, 0, 4096, 0, 4096, 4096, 0, 4096, 0, 0)}, "xxxx", "x  x", "x  x", "xxxx")
	checkPicture(t, "to and fro", []impl.Stroke{inked("x", 0, 0, 4096, 0, 0, 0, 0, 4096)}, "x   ", "x   ", "x   ", "xxxx")
	checkPicture(t, "a stay between", []impl.Stroke{inked("x", 0, 0, 0, 0, 4096, 4096, 4096, 4096)}, "   x", "  x ", " x  ", "x   ")
	checkPicture(t, "two apart", []impl.Stroke{inked("x", 0, 0), inked("x", 4096, 4096)}, "   x", "    ", "    ", "x   ")
}

// A stretch that falls by one place lies lower from its second place on, one that rises only at its last.
func TestPlacesAreRoundedDown(t *testing.T) {
	checkPicture(t, "falling", []impl.Stroke{inked("x", 0, 1025, 4096, 1024)}, "    ", "    ", "x   ", "xxxx")
	checkPicture(t, "rising", []impl.Stroke{inked("x", 0, 1024, 4096, 1025)}, "    ", "    ", "   x", "xxxx")
	checkPicture(t, "to the left", []impl.Stroke{inked("x", 2049, 0, 2048, 4096)}, " x  ", " x  ", " x  ", " xx ")
	checkPicture(t, "to the right", []impl.Stroke{inked("x", 2048, 0, 2049, 4096)}, " xx ", " x  ", " x  ", " x  ")
	// Where four cells meet, single places are seen: on the first of these rows (1024, 1024) and (1025, 1025) lie between.
	checkPicture(t, "thirds", []impl.Stroke{inked("x", 1023, 1024, 1026, 1026)}, "    ", "    ", " x  ", "x   ")
	checkPicture(t, "thirds", []impl.Stroke{inked("x", 1024, 1023, 1026, 1026)}, "    ", "    ", " x  ", "x   ")
	checkPicture(t, "thirds", []impl.Stroke{inked("x", 1023, 1023, 1026, 1025)}, "    ", "    ", " x  ", "xx  ")
}

func TestStrokesOverOthers(t *testing.T) {
	up, across := inked("up", 2048, 0, 2048, 4096), inked("level", 0, 2048, 4096, 2048)
	checkPicture(t, "the later", []impl.Stroke{up, across}, " u ", "lll", " u ")
	checkPicture(t, "the later", []impl.Stroke{across, up}, " u ", "lul", " u ")
	checkPicture(t, "the later, thrice", []impl.Stroke{across, up, across}, " u ", "lll", " u ")
	checkPicture(t, "one that puts nothing", []impl.Stroke{up, across, inked("", 0, 0, 4096, 4096), inked("x", 0, 0, 4097, 0)}, " u ", "lll", " u ")
	checkPicture(t, "a blank", []impl.Stroke{up, across, inked(" ", 2048, 2048, 4096, 2048)}, " u ", "l  ", " u ")
	// The layer counted when the strokes were made; the width and the way have no part in it.
	across.Layer, across.Width, across.Way = -5, 1000, 0
	checkPicture(t, "in the order of the list", []impl.Stroke{up, across}, " u ", "lll", " u ")
}

func TestInk(t *testing.T) {
	for b := range 256 {
		one := string([]byte{byte(b)})
		for _, colour := range []string{one, one + "red", one + one, one + "\x00"} {
			checkPicture(t, "ink", []impl.Stroke{inked(colour, 0, 0)}, "  ", one+" ")
		}
	}
	checkPicture(t, "the first byte, not the first letter", []impl.Stroke{inked("\u00e9", 0, 0)}, "\xc3")
	checkPicture(t, "a long one", []impl.Stroke{inked(strings.Repeat("abc", 1<<18), 0, 0)}, "a")
}

func TestPointsBesideTheGrid(t *testing.T) {
	for _, n := range []int64{-1, 4097, -4096, 8192, math.MinInt64, math.MaxInt64, math.MinInt32, math.MaxInt32 + 1} {
		for i := range 4 {
			for _, p := range []impl.Point{at(n, 5), at(5, n), at(n, n)} {
				row := path(0, 0, 4096, 4096, 0, 4096, 4096, 0)
				row[i] = p
				checkPicture(t, "beside it", []impl.Stroke{{Colour: "x", Row: row}}, "  ", "  ")
				checkPicture(t, "one beside it, one on it", []impl.Stroke{{Colour: "x", Row: row}, inked("y", 0, 0)}, "  ", "y ")
			}
		}
		checkPicture(t, "alone", []impl.Stroke{inked("x", n, 0)}, "  ", "  ")
		checkPicture(t, "alone", []impl.Stroke{inked("x", 0, n)}, "  ", "  ")
	}
	checkPicture(t, "on its edges", []impl.Stroke{inked("x", 0, 0, 4096, 0, 4096, 4096, 0, 4096, 0, 0)}, "xx", "xx")
}

func TestHowManyStrokesInPictures(t *testing.T) {
	ss := make([]impl.Stroke, impl.MaxLines+1)
	for i := range ss {
		ss[i] = inked(string(rune('a'+i%26)), 0, 0, 4096, 4096)
	}
	// 2000 is 76 times 26, and 24.
	checkPicture(t, "MaxLines", ss[:impl.MaxLines], " x", "x ")
	checkNoPicture(t, "one more", ss, 2)
	checkNoPicture(t, "one more, that puts nothing", append(ss[:impl.MaxLines:impl.MaxLines], impl.Stroke{}), 2)
	checkNoPicture(t, "far more", make([]impl.Stroke, 1<<20), 2)
	long := make([]impl.Point, 1<<16)
	for i := range long {
		long[i] = at(int64(i)%4097, 0)
	}
	// No more is asked of a row than where its points are.
	checkPicture(t, "a long row", []impl.Stroke{{Colour: "x", Row: long}}, "   ", "   ", "xxx")
}

func TestPicturesAgainstTheWords(t *testing.T) {
	tell := numbers(90)
	inks := 0
	for i := range 1500 {
		size := pick(tell, 1+tell.Int63n(6), 1+tell.Int63n(256), 256)
		ss := make([]impl.Stroke, tell.Intn(5))
		for k := range ss {
			p := at(tell.Int63n(4097), tell.Int63n(4097))
			for range tell.Intn(5) {
				ss[k].Row = append(ss[k].Row, p)
				far := pick(tell, int64(3), 40, 200)
				p = at(max(0, min(4096, p.X+within(tell, far))), max(0, min(4096, p.Y+within(tell, far))))
			}
			ss[k].Colour = pick(tell, "red", "blue", "x", "\xff", "", "green")
			if i%9 == 0 && len(ss[k].Row) > 0 && tell.Intn(2) == 0 {
				ss[k].Row[tell.Intn(len(ss[k].Row))] = pick(tell, at(-1, 5), at(5, 4097))
			}
		}
		want := pictureOf(ss, size)
		checkPicture(t, "by chance", ss, want...)
		inks += count(slices.ContainsFunc(want, func(text string) bool { return strings.Trim(text, " ") != "" }))
		if t.Failed() {
			t.FailNow()
		}
	}
	if inks < 800 {
		t.Error("too few were drawn:", inks)
	}
}

func TestLongLinesAgainstTheWords(t *testing.T) {
	tell := numbers(91)
	for range 60 {
		ss := []impl.Stroke{
			inked("a", tell.Int63n(4097), tell.Int63n(4097), tell.Int63n(4097), tell.Int63n(4097)),
			inked("b", pick(tell, int64(0), 4096), tell.Int63n(4097), tell.Int63n(4097), pick(tell, int64(0), 4096)),
		}
		checkPicture(t, "long", ss, pictureOf(ss, pick(tell, int64(256), 255, 100, 7))...)
	}
}

// From the map to the picture: what lies in the tile, painted by a style, drawn by layers.
func TestPictureOfAMap(t *testing.T) {
	rs, fault := impl.ReadStyle("zoom 0-10 -> draw way 1 1\nzoom 0-10 highway -> draw street 2 2\nzoom 0-9 highway=main -> draw main 3 3\nzoom 10-10 !highway name!=x -> draw path 1 0\n")
	if fault != 0 {
		t.Fatal(fault)
	}
	ss := impl.Strokes(impl.TileOf(wideTown(), tile(10, 513, 512)), rs)
	checkStrokes(t, "of the tile", impl.TileOf(wideTown(), tile(10, 513, 512)), rs,
		stroked(1, path(0, 0, 904, 0), draws("path", 1, 0)), stroked(12, path(0, 904, 904, 0, 0, 904), draws("path", 1, 0)), stroked(5, path(904, 0, 904, 4096), draws("street", 2, 2)))
	checkPicture(t, "of the tile", ss, " s      ", " s      ", " s      ", " s      ", " s      ", " s      ", "ps      ", "ps      ")
}
