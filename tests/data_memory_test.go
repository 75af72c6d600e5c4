package tests

import (
	"math"
	"slices"
	"testing"

	"loop.example/g00024/impl"
)

// Promise 19, of chapter 2: every function answers at every argument and none panics; answers are new memory; arguments stay.

// mapsToGuard are maps of each kind: empty, small, full of Tags, by chance, and such as can't be.
func mapsToGuard() []impl.Map {
	laden := town()
	for i := range laden.Nodes {
		laden.Nodes[i].Tags = manyTags(impl.MaxTags)
	}
	for i := range laden.Ways {
		laden.Ways[i].Tags = manyTags(i)
	}
	for i := range laden.Areas {
		laden.Areas[i].Tags = manyTags(i)
	}
	maps := []impl.Map{{}, town(), laden, blank(40, 20, 10), blank(3, 0, 0)}
	tell := numbers(24)
	for range 50 {
		maps = append(maps, someMap(tell))
	}
	eachFault(func(name string, m impl.Map) { maps = append(maps, m) })
	return maps
}

type mapAndId struct {
	Map impl.Map
	Id  int64
}

type mapAndBox struct {
	Map impl.Map
	Box impl.Box
}

type tagsAndKey struct {
	Tags []impl.Tag
	Key  string
}

func TestMapsStayAndAnswersAreNew(t *testing.T) {
	for _, m := range mapsToGuard() {
		checkMemory(t, "MapOk", m, impl.MapOk)
		checkMemory(t, "Unused", m, impl.Unused)
		for _, id := range []int64{0, 1, 5, 9} {
			checkMemory(t, "WayRow", mapAndId{m, id}, func(a mapAndId) []impl.Point { return impl.WayRow(a.Map, a.Id) })
			checkMemory(t, "UsersOf", mapAndId{m, id}, func(a mapAndId) []int64 { return impl.UsersOf(a.Map, a.Id) })
		}
		for _, b := range []impl.Box{box(-100, -100, 100, 100), box(9, 9, 11, 11), box(-1, -1, 1, 1), box(1, 1, 0, 0)} {
			checkMemory(t, "Crop", mapAndBox{m, b}, func(a mapAndBox) impl.Map { return impl.Crop(a.Map, a.Box) })
		}
	}
}

func TestTagsStay(t *testing.T) {
	lists := [][]impl.Tag{nil, {}, tags("a", "1", "b", "2"), tags("b", "1", "a", "2", "b", "3"), manyTags(impl.MaxTags), manyTags(impl.MaxTags + 1)}
	for _, ts := range noTags() {
		lists = append(lists, ts)
	}
	for _, ts := range lists {
		checkMemory(t, "TagsOk", ts, impl.TagsOk)
		for _, key := range []string{"a", "b", "", "litter"} {
			checkMemory(t, "TagOf", tagsAndKey{ts, key}, func(a tagsAndKey) string { return impl.TagOf(a.Tags, a.Key) })
		}
	}
}

// Lists of the argument that share memory with each other give lists of the answer that do not.
func TestCropsOfSharedListsAreApart(t *testing.T) {
	ts, nodes, parts := tags("a", "1", "b", "2"), []int64{1, 2, 1}, []impl.Part{outer(1), inner(2)}
	m := impl.Map{
		Nodes: []impl.Node{{Id: 1, Tags: ts}, {Id: 2, Tags: ts}},
		Ways:  []impl.Way{{Id: 1, Nodes: nodes, Tags: ts}, {Id: 2, Nodes: nodes, Tags: ts[:1]}},
		Areas: []impl.Area{{Id: 1, Parts: parts, Tags: ts}, {Id: 2, Parts: parts[:1], Tags: ts}},
	}
	want := same(m)
	got := impl.Crop(m, box(0, 0, 0, 0))
	if !sameMap(got, want) {
		t.Fatal(got)
	}
	got.Nodes[0].Tags[0] = tag("z", "z")
	got.Ways[0].Nodes[0] = 77
	got.Ways[1].Tags = append(got.Ways[1].Tags, tag("z", "z"))
	got.Areas[0].Parts[0] = outer(77)
	if !sameMap(m, want) || !slices.Equal(got.Nodes[1].Tags, ts) || !slices.Equal(got.Ways[0].Tags, ts) || !slices.Equal(got.Areas[0].Tags, ts) ||
		!slices.Equal(got.Ways[1].Nodes, nodes) || !slices.Equal(got.Areas[1].Parts, parts[:1]) {
		t.Error("a change of one list shows in another")
	}
}

// The answer of before a change of the argument stays as it is.
func TestAnswersDoNotFollowTheMap(t *testing.T) {
	m := town()
	everywhere := box(-100, -100, 100, 100)
	row, users, unused, crop := impl.WayRow(m, 6), impl.UsersOf(m, 3), impl.Unused(m), impl.Crop(m, everywhere)
	kept := same(crop)
	for i := range m.Nodes {
		m.Nodes[i].Point = at(-7, -7)
		for k := range m.Nodes[i].Tags {
			m.Nodes[i].Tags[k] = tag("z", "z")
		}
	}
	for i := range m.Ways {
		m.Ways[i].Id = 77
		clear(m.Ways[i].Nodes)
		clear(m.Ways[i].Tags)
	}
	for i := range m.Areas {
		clear(m.Areas[i].Parts)
		clear(m.Areas[i].Tags)
	}
	if !slices.Equal(row, []impl.Point{at(10, 10), at(0, 10), at(0, 0)}) || !sameMap(crop, kept) {
		t.Error("an answer changed with the argument", row, crop)
	}
	checkIds(t, "UsersOf", users, 5, 6, 9)
	checkIds(t, "Unused", unused, 7, 9)
}

// strangeMap has numbers and lists of every kind, whether they fit or not.
func strangeMap(seed int64) impl.Map {
	tell := numbers(seed)
	pick := func() int64 {
		all := append(strange(), impl.MaxId, impl.MaxId+1, 1, 2, 3, 1, 2, 3)
		return all[tell.Intn(len(all))]
	}
	text := func() string { return []string{"", "a", "b", "\x00", "\xff", "A", "a b", "\u00df"}[tell.Intn(8)] }
	some := func() []impl.Tag {
		var ts []impl.Tag
		for range tell.Intn(3) {
			ts = append(ts, tag(text(), text()))
		}
		return ts
	}
	var m impl.Map
	for i := range int64(tell.Intn(5)) {
		m.Nodes = append(m.Nodes, impl.Node{Id: i + 1, Point: at(pick(), pick()), Tags: some()})
	}
	for range tell.Intn(4) {
		m.Ways = append(m.Ways, impl.Way{Id: pick(), Nodes: []int64{pick(), pick(), pick()}[:tell.Intn(4)], Tags: some()})
	}
	for range tell.Intn(4) {
		m.Areas = append(m.Areas, impl.Area{Id: pick(), Parts: []impl.Part{outer(pick()), inner(pick())}[:tell.Intn(3)], Tags: some()})
	}
	return m
}

func TestMapsOfEveryKindAreAnswered(t *testing.T) {
	tell := numbers(25)
	number := func() int64 { return strange()[tell.Intn(len(strange()))] }
	for seed := range int64(20000) {
		m, b := strangeMap(seed), box(number(), number(), number(), number())
		id := number()
		ok := impl.MapOk(m)
		if ok != mapCanBe(m) {
			t.Fatal("MapOk", m, ok)
		}
		if row, users, unused := impl.WayRow(m, id), impl.UsersOf(m, id), impl.Unused(m); !ok && len(row)+len(users)+len(unused) > 0 {
			t.Fatal("told of no map", m, row, users, unused)
		}
		crop := impl.Crop(m, b)
		if ok && !sameMap(crop, cropOf(m, b)) || !ok && !sameMap(crop, impl.Map{}) {
			t.Fatal("Crop", m, b, crop)
		}
		for _, n := range m.Nodes {
			if impl.TagsOk(n.Tags) != tagsCanBe(n.Tags) {
				t.Fatal("TagsOk", n.Tags)
			}
			impl.TagOf(n.Tags, "\xff")
		}
	}
	// Far more than may be is refused as one more is.
	for _, m := range []impl.Map{
		{Nodes: make([]impl.Node, 1<<20)}, {Ways: make([]impl.Way, 1<<20)}, {Areas: make([]impl.Area, 1<<20)},
		{Ways: []impl.Way{{Id: 1, Nodes: make([]int64, 1<<20)}}}, {Areas: []impl.Area{{Id: 1, Parts: make([]impl.Part, 1<<20)}}},
		{Nodes: []impl.Node{{Id: 1, Tags: make([]impl.Tag, 1<<20)}}},
	} {
		if impl.MapOk(m) || len(impl.WayRow(m, 1)) > 0 || !sameMap(impl.Crop(m, box(math.MinInt64, 0, math.MaxInt64, 0)), impl.Map{}) {
			t.Error("a great list was taken")
		}
	}
}

func TestTheSameMapIsAnsweredAgain(t *testing.T) {
	tell := numbers(26)
	for range 200 {
		m, b := someMap(tell), impl.Box{Low: at(-4, -4), High: somewhere(tell, 6)}
		row, users, unused, crop := impl.WayRow(m, 3), impl.UsersOf(m, 2), impl.Unused(m), impl.Crop(m, b)
		impl.Crop(town(), b)
		impl.WayRow(town(), 6)
		for range 3 {
			if !slices.Equal(impl.WayRow(m, 3), row) || !slices.Equal(impl.UsersOf(m, 2), users) ||
				!slices.Equal(impl.Unused(m), unused) || !sameMap(impl.Crop(m, b), crop) {
				t.Fatal("a call hangs on the one ahead of it:", m)
			}
		}
	}
}
