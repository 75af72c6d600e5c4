package tests

import (
	"math/rand"
	"slices"
	"strings"
	"testing"

	"loop.example/g00024/impl"
)

// Promise 3, of ChangeBytes and ReadChanges: the bytes of changes are read as they.

// checkBytes asks for both ways.
func checkBytes(t *testing.T, name string, want string, cs ...impl.Change) {
	t.Helper()
	if got := impl.ChangeBytes(cs); string(got) != want {
		t.Errorf("%s: %.200q, not %.200q", name, got, want)
	}
	if got, ok := impl.ReadChanges([]byte(want)); !ok || !sameChanges(got, cs) {
		t.Errorf("%s: read %v as %d changes", name, ok, len(got))
	}
}

func checkNotRead(t *testing.T, name string, b []byte) {
	t.Helper()
	if got, ok := impl.ReadChanges(b); ok || len(got) > 0 {
		t.Errorf("%s: %.200q was read: %v, %d changes", name, b, ok, len(got))
	}
}

func TestBytesOfEachKind(t *testing.T) {
	tagged := way(5, 3, 5, 1, 2)
	tagged.Tags = tags("highway", "street")
	wood := area(6, inner(9))
	wood.Tags = tags("a:1", "Z", "b_2", " ")
	checkBytes(t, "no change", "WMD1")
	checkBytes(t, "a cut node", "WMD1\x06\x01", cutNode(1))
	checkBytes(t, "a cut way", "WMD1\x05\x02", cutWay(2))
	checkBytes(t, "a cut area", "WMD1\x03\x03", cutArea(3))
	checkBytes(t, "a node", "WMD1\x01\x07\x0a\x03\x00", putNode(node(7, 5, -2)))
	checkBytes(t, "a node with tags", "WMD1\x01\x07\x00\x00\x02\x01a\x03b c\x04name\x01~", putNode(node(7, 0, 0, "a", "b c", "name", "~")))
	checkBytes(t, "a way up and down", "WMD1\x02\x05\x04\x03\x04\x07\x02\x00", putWay(way(5, 3, 5, 1, 2)))
	checkBytes(t, "a way with tags", "WMD1\x02\x05\x04\x03\x04\x07\x02\x01\x07highway\x06street", putWay(tagged))
	checkBytes(t, "a way far up and down", "WMD1\x02\x80\x01\x03\x01\xfe\xa7\xd6\xb9\x07\xfd\xa7\xd6\xb9\x07\x00", putWay(way(128, 1, impl.MaxId, 1)))
	checkBytes(t, "an area", "WMD1\x04\x06\x04\x02\x05\x7f\x80\x01\x00", putArea(area(6, outer(1), inner(2), inner(63), outer(64))))
	checkBytes(t, "an area with tags", "WMD1\x04\x06\x01\x13\x02\x03a:1\x01Z\x03b_2\x01 ", putArea(wood))
	checkBytes(t, "several", "WMD1\x06\x01\x05\x02\x01\x01\x00\x00\x00\x06\x01", cutNode(1), cutWay(2), putNode(node(1, 0, 0)), cutNode(1))
}

// Whether a way or area could stand in a map is not asked: not more than may be is enough.
func TestBytesOfWhatNoMapHas(t *testing.T) {
	checkBytes(t, "a way of no node", "WMD1\x02\x05\x00\x00", putWay(way(5)))
	checkBytes(t, "a way of one node", "WMD1\x02\x05\x01\x09\x00", putWay(way(5, 9)))
	checkBytes(t, "a node twice", "WMD1\x02\x05\x02\x09\x00\x00", putWay(way(5, 9, 9)))
	checkBytes(t, "an area of no part", "WMD1\x04\x05\x00\x00", putArea(area(5)))
	checkBytes(t, "a way twice", "WMD1\x04\x05\x02\x12\x13\x00", putArea(area(5, outer(9), inner(9))))
}

func TestBytesOfNumbers(t *testing.T) {
	for id, want := range map[int64]string{
		1: "\x01", 127: "\x7f", 128: "\x80\x01", 129: "\x81\x01", 255: "\xff\x01", 256: "\x80\x02", 16383: "\xff\x7f", 16384: "\x80\x80\x01",
		2097151: "\xff\xff\x7f", 2097152: "\x80\x80\x80\x01", 268435455: "\xff\xff\xff\x7f", 268435456: "\x80\x80\x80\x80\x01",
		impl.MaxId: "\x80\x94\xeb\xdc\x03",
	} {
		checkBytes(t, "a cut node", "WMD1\x06"+want, cutNode(id))
		checkBytes(t, "a node", "WMD1\x01"+want+"\x00\x00\x00", putNode(node(id, 0, 0)))
		checkBytes(t, "a way", "WMD1\x02"+want+"\x02"+want+"\x00\x00", putWay(way(id, id, id)))
		checkBytes(t, "an area", "WMD1\x04"+want+"\x00\x00", putArea(area(id)))
	}
	for n, want := range map[int64]string{
		0: "\x00", -1: "\x01", 1: "\x02", -2: "\x03", 63: "\x7e", -64: "\x7f", 64: "\x80\x01", -65: "\x81\x01",
		8191: "\xfe\x7f", -8192: "\xff\x7f", 8192: "\x80\x80\x01", -8193: "\x81\x80\x01",
		impl.MaxCoord: "\x80\xda\xc4\x09", -impl.MaxCoord: "\xff\xd9\xc4\x09",
	} {
		checkBytes(t, "an X", "WMD1\x01\x01"+want+"\x00\x00", putNode(node(1, n, 0)))
		checkBytes(t, "a Y", "WMD1\x01\x01\x00"+want+"\x00", putNode(node(1, 0, n)))
		from := int64(20000000)
		checkBytes(t, "a way's next node", "WMD1\x02\x01\x03\x80\xda\xc4\x09"+want+"\x00\x00", putWay(way(1, from, from+n, from+n)))
	}
}

func TestBytesOfAsMuchAsMayBe(t *testing.T) {
	long := tags(strings.Repeat("k", impl.MaxWord), strings.Repeat("v", impl.MaxValue))
	checkBytes(t, "a long Key and Value", "WMD1\x01\x01\x00\x00\x01\x28"+long[0].Key+"\x64"+long[0].Value, putNode(impl.Node{Id: 1, Tags: long}))
	many := manyTags(impl.MaxTags)
	row := way(9, sway(1, 2, impl.MaxRow)...)
	row.Tags = many
	lots := area(9, manyParts(impl.MaxTags)...)
	lots.Tags = many
	for name, c := range map[string]impl.Change{
		"MaxTags of a node": putNode(impl.Node{Id: 1, Point: at(-impl.MaxCoord, impl.MaxCoord), Tags: many}),
		"MaxRow nodes":      putWay(row),
		"MaxTags parts":     putArea(lots),
	} {
		checkBytes(t, name, string(changeBytesOf(c)), c)
	}
	if head := string(impl.ChangeBytes([]impl.Change{putWay(row)})[:10]); head != "WMD1\x02\x09\xd0\x0f\x01\x02" {
		t.Errorf("%q", head)
	}
	most := repeated(cutNode(1), impl.MaxChanges)
	checkBytes(t, "MaxChanges", "WMD1"+strings.Repeat("\x06\x01", impl.MaxChanges), most...)
	if got := impl.ChangeBytes(append(most, cutNode(1))); len(got) > 0 {
		t.Error("MaxChanges + 1 were written")
	}
	checkNotRead(t, "MaxChanges + 1", []byte("WMD1"+strings.Repeat("\x06\x01", impl.MaxChanges+1)))
	checkNotRead(t, "far more", []byte("WMD1"+strings.Repeat("\x06\x01", 1<<20)))
}

func TestNoBytesOfWhatCannotBe(t *testing.T) {
	for _, bad := range badChanges() {
		good := oneOfEach()
		for name, cs := range map[string][]impl.Change{
			"alone": {bad.change}, "first": slices.Insert(good, 0, bad.change), "between": slices.Insert(good, 3, bad.change), "last": append(good, bad.change),
		} {
			if got := impl.ChangeBytes(cs); len(got) > 0 {
				t.Errorf("%s, %s: written as %.200q", bad.name, name, got)
			}
		}
		if changesCanBe([]impl.Change{bad.change}) {
			t.Error(bad.name, "can be")
		}
	}
	// What is empty is zero, be it nil or not.
	for _, c := range oneOfEach() {
		want := string(changeBytesOf(c))
		for _, ts := range []*[]impl.Tag{&c.Node.Tags, &c.Way.Tags, &c.Area.Tags} {
			if *ts == nil {
				*ts = []impl.Tag{}
			}
		}
		if c.Way.Nodes == nil {
			c.Way.Nodes = []int64{}
		}
		if c.Area.Parts == nil {
			c.Area.Parts = []impl.Part{}
		}
		checkBytes(t, "empty lists", want, c)
	}
}

// What ChangeBytes does not write is not read either, however it is written.
func TestBytesOfWhatCannotBeAreNotRead(t *testing.T) {
	seen := 0
	for _, bad := range badChanges() {
		if read, ok := readOf(changeBytesOf(bad.change)); ok {
			// What a Kind does not use has no bytes.
			if sameChange(read[0], bad.change) {
				t.Error(bad.name)
			}
			continue
		}
		seen++
		checkNotRead(t, bad.name, changeBytesOf(bad.change))
		checkNotRead(t, bad.name+" behind others", changeBytesOf(append(oneOfEach(), bad.change)...))
		checkNotRead(t, bad.name+" ahead of others", changeBytesOf(append([]impl.Change{bad.change}, oneOfEach()...)...))
	}
	if seen < 50 {
		t.Error("too few:", seen)
	}
}

func TestReadAtEachLength(t *testing.T) {
	ends := map[int]int{}
	for n := range len(oneOfEach()) + 1 {
		ends[len(changeBytesOf(oneOfEach()[:n]...))] = n
	}
	all := changeBytesOf(oneOfEach()...)
	for n := range len(all) + 1 {
		count, whole := ends[n]
		got, ok := impl.ReadChanges(all[:n])
		if ok != whole || !sameChanges(got, oneOfEach()[:count]) {
			t.Errorf("%d of %d bytes: %v %v", n, len(all), ok, got)
		}
	}
	for b := range 256 {
		checkNotRead(t, "one byte more", append(slices.Clone(all), byte(b)))
	}
	checkNotRead(t, "one change and a half", append(slices.Clone(all), all[4:9]...))
}

func TestReadAnotherBeginning(t *testing.T) {
	for _, b := range []string{"", "W", "WM", "WMD", "WMD2", "WMD0", "wmd1", "WMT1", "XMD1", "WXD1", "WMX1", " WMD1", "WMD", "\x06\x01", "WMD\x01", "WMD1WMD1", "WWMD1"} {
		checkNotRead(t, "beginning", []byte(b))
		checkNotRead(t, "beginning", []byte(b+"\x06\x01"))
	}
	checkNotRead(t, "nil", nil)
}

func TestReadKindsThatAreNone(t *testing.T) {
	for kind := range 256 {
		if 1 <= kind && kind <= 6 {
			continue
		}
		checkNotRead(t, "Kind", []byte{'W', 'M', 'D', '1', byte(kind)})
		checkNotRead(t, "Kind", []byte{'W', 'M', 'D', '1', byte(kind), 1})
		checkNotRead(t, "Kind", []byte{'W', 'M', 'D', '1', 6, 1, byte(kind), 1})
		checkNotRead(t, "Kind", []byte{'W', 'M', 'D', '1', byte(kind), 1, 0, 0, 0})
	}
	checkNotRead(t, "a Kind of two bytes", []byte("WMD1\x86\x00\x01"))
}

// longer are the bytes of one number, in more bytes than it needs.
func longer(number string) []string {
	last := len(number) - 1
	start := number[:last] + string([]byte{number[last] | 128})
	return []string{start + "\x00", start + "\x80\x00", start + strings.Repeat("\x80", 7) + "\x00", start + strings.Repeat("\x80", 60) + "\x00"}
}

// wrongNumbers are bytes that must not stand in the place of those of a number.
func wrongNumbers(number string) []string {
	wrong := append(longer(number),
		"\x81\x94\xeb\xdc\x83\x01", strings.Repeat("\xff", 8)+"\x7f", strings.Repeat("\xff", 9)+"\x01", strings.Repeat("\xff", 9)+"\x7f",
		strings.Repeat("\xff", 10)+"\x01", strings.Repeat("\xff", 40)+"\x01", strings.Repeat("\x80", 9)+"\x01", strings.Repeat("\x80", 9)+"\x02",
		strings.Repeat("\x80", 10)+"\x01", strings.Repeat("\xff", 200), strings.Repeat("\x80", 200))
	// One that is right in its lowest bits is still another number.
	last := len(number) - 1
	low := number[:last] + string([]byte{number[last] | 128})
	for noughts := 4; noughts < 12; noughts++ {
		for _, high := range []string{"\x01", "\x02", "\x40", "\x7f"} {
			wrong = append(wrong, low+strings.Repeat("\x80", noughts)+high)
		}
	}
	return wrong
}

func TestReadLongNumbers(t *testing.T) {
	// Each form with a # for one number, and bytes that may stand there.
	for form, number := range map[string]string{
		"WMD1\x06#": "\x01", "WMD1\x05#": "\x7f", "WMD1\x03#": "\x80\x01", "WMD1\x01#\x00\x00\x00": "\x80\x94\xeb\xdc\x03",
		"WMD1\x01\x01#\x00\x00": "\x00", "WMD1\x01\x01\x00#\x00": "\x01", "WMD1\x01\x01\x00\x00#": "\x00",
		"WMD1\x01\x01\x00\x00\x01#a\x01b": "\x01", "WMD1\x01\x01\x00\x00\x01\x01a#b": "\x01",
		"WMD1\x02#\x00\x00": "\x02", "WMD1\x02\x02#\x00": "\x00", "WMD1\x02\x02#\x05\x02\x00": "\x02", "WMD1\x02\x02\x02#\x02\x00": "\x05",
		"WMD1\x02\x02\x02\x05#\x00": "\x03", "WMD1\x02\x02\x02\x05\x02#": "\x00", "WMD1\x04#\x00\x00": "\x01", "WMD1\x04\x01#\x00": "\x00",
		"WMD1\x04\x01\x01#\x00": "\x03", "WMD1\x04\x01\x01\x03#": "\x00",
	} {
		if _, ok := impl.ReadChanges([]byte(strings.Replace(form, "#", number, 1))); !ok {
			t.Errorf("%q was not read", form)
		}
		for _, wrong := range wrongNumbers(number) {
			checkNotRead(t, "a number", []byte(strings.Replace(form, "#", wrong, 1)))
		}
	}
}

func TestReadCountsThatAreTooGreat(t *testing.T) {
	for _, b := range []string{
		"WMD1\x02\x01\x03\x01\x02\x00", "WMD1\x02\x01\x02\x01\x02", "WMD1\x02\x01\xd0\x0f\x01\x02\x00", "WMD1\x02\x01\xd1\x0f\x01\x02\x00",
		"WMD1\x04\x01\x02\x02\x00", "WMD1\x04\x01\x1e\x02\x00", "WMD1\x04\x01\x1f\x02\x00", "WMD1\x04\x01\xff\xff\xff\xff\xff\xff\xff\xff\x7f\x02\x00",
		"WMD1\x02\x01\xff\xff\xff\xff\xff\xff\xff\xff\x7f\x02\x00", "WMD1\x01\x01\x00\x00\xff\xff\xff\xff\xff\xff\xff\xff\x7f\x01a\x01b",
		"WMD1\x01\x01\x00\x00\x02\x01a\x01b", "WMD1\x01\x01\x00\x00\x01\x01a\x02b", "WMD1\x01\x01\x00\x00\x01\x02a\x01b", "WMD1\x01\x01\x00\x00\x01\x01a",
		"WMD1\x01\x01\x00\x00\x01\xff\xff\xff\xff\xff\xff\xff\xff\x7fa\x01b", "WMD1\x01\x01\x00\x00\x01\x01a\xff\xff\xff\xff\xff\xff\xff\xff\x7fb",
	} {
		checkNotRead(t, "a count", []byte(b))
	}
}

// shakenBytes are others at up to two places, more, or fewer.
func shakenBytes(r *rand.Rand, b []byte) []byte {
	for range r.Intn(3) {
		at := r.Intn(len(b))
		switch r.Intn(3) {
		case 0:
			b[at] = byte(r.Intn(256))
		case 1:
			b = slices.Insert(b, at, byte(r.Intn(9)))
		default:
			b = slices.Delete(b, at, at+1)
		}
		if len(b) == 0 {
			break
		}
	}
	return b
}

func TestReadByChance(t *testing.T) {
	tell := numbers(33)
	read := 0
	for range 60000 {
		b := shakenBytes(tell, changeBytesOf(someChanges(tell, 3)...))
		want, wanted := readOf(b)
		got, ok := impl.ReadChanges(b)
		if ok != wanted || !sameChanges(got, want) {
			t.Fatalf("%q: %v %v, not %v %v", b, ok, got, wanted, want)
		}
		if ok {
			read++
			if again := impl.ChangeBytes(got); !slices.Equal(again, b) {
				t.Fatalf("%q is written again as %q", b, again)
			}
		}
	}
	if read < 10000 || read > 50000 {
		t.Error("chance was of no help:", read)
	}
}

func TestWrittenByChance(t *testing.T) {
	tell := numbers(34)
	for range 20000 {
		cs := someChanges(tell, 6)
		checkBytes(t, "by chance", string(changeBytesOf(cs...)), cs...)
		if t.Failed() {
			t.FailNow()
		}
	}
}
