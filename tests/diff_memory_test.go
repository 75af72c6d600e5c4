package tests

import (
	"slices"
	"testing"

	"loop.example/g00024/impl"
)

// Promise 19, of chapter 3: every function answers at every argument and none panics; answers are new memory; arguments stay.

type twoMaps struct {
	From impl.Map
	To   impl.Map
}

type mapAndChanges struct {
	Map     impl.Map
	Changes []impl.Change
}

type mapAndDays struct {
	Map  impl.Map
	Days [][]impl.Change
}

type applied struct {
	Map impl.Map
	Ok  bool
}

type changesRead struct {
	Changes []impl.Change
	Ok      bool
}

func askDiff(a twoMaps) []impl.Change { return impl.Diff(a.From, a.To) }

func askApply(a mapAndChanges) applied {
	m, ok := impl.Apply(a.Map, a.Changes)
	return applied{m, ok}
}

func askRead(b []byte) changesRead {
	cs, ok := impl.ReadChanges(b)
	return changesRead{cs, ok}
}

func askHistory(a mapAndDays) []impl.Map { return impl.History(a.Map, a.Days) }

// changesToGuard are lists of each kind: none, one of each, by chance, those between maps, and such as can't be.
func changesToGuard() [][]impl.Change {
	lists := [][]impl.Change{nil, {}, oneOfEach(), impl.Diff(impl.Map{}, town()), impl.Diff(town(), impl.Map{}), repeated(cutNode(5), 40)}
	tell := numbers(36)
	for range 60 {
		lists = append(lists, someChanges(tell, 8))
	}
	for _, bad := range badChanges() {
		if len(bad.change.Way.Nodes)+len(bad.change.Area.Parts) < 100 {
			lists = append(lists, []impl.Change{bad.change}, append(oneOfEach(), bad.change))
		}
	}
	return append(lists, []impl.Change{{}}, []impl.Change{cutNode(9), {Kind: 7, Id: 3}})
}

func TestChangesStayAndAnswersAreNew(t *testing.T) {
	maps, lists := []impl.Map{{}, town(), blank(20, 10, 5)}, changesToGuard()
	for i, m := range mapsToGuard() {
		for _, o := range maps {
			checkMemory(t, "Diff", twoMaps{m, o}, askDiff)
			checkMemory(t, "Diff", twoMaps{o, m}, askDiff)
		}
		cs := lists[i%60]
		checkMemory(t, "Apply", mapAndChanges{m, cs}, askApply)
		checkMemory(t, "Apply", mapAndChanges{m, nil}, askApply)
		checkMemory(t, "Apply", mapAndChanges{m, impl.Diff(m, town())}, askApply)
		checkMemory(t, "History", mapAndDays{m, [][]impl.Change{nil, cs, impl.Diff(m, town())}}, askHistory)
	}
	for _, cs := range lists {
		checkMemory(t, "ChangeBytes", cs, impl.ChangeBytes)
		checkMemory(t, "ReadChanges", changeBytesOf(cs...), askRead)
		for _, m := range maps {
			checkMemory(t, "Apply", mapAndChanges{m, cs}, askApply)
			checkMemory(t, "History", mapAndDays{m, [][]impl.Change{{}, cs, {}, cs}}, askHistory)
		}
	}
}

// The same list in several changes, and the same change on several days, still give lists that lie apart.
func TestAnswersOfSharedChangesAreApart(t *testing.T) {
	ts, nodes, parts := tags("a", "1", "b", "2"), []int64{1, 2, 1}, []impl.Part{outer(1), inner(2)}
	cs := []impl.Change{
		putNode(impl.Node{Id: 1, Tags: ts}), putNode(impl.Node{Id: 2, Tags: ts[:1]}),
		putWay(impl.Way{Id: 1, Nodes: nodes, Tags: ts}), putWay(impl.Way{Id: 2, Nodes: nodes[:2], Tags: ts}),
		putArea(impl.Area{Id: 1, Parts: parts, Tags: ts}), putArea(impl.Area{Id: 2, Parts: parts[:1], Tags: ts[1:]}),
	}
	kept := same(cs)
	days := impl.History(impl.Map{}, [][]impl.Change{cs, nil, cs})
	if len(days) != 3 || !sameMap(days[0], days[1]) || !sameMap(days[1], days[2]) {
		t.Fatal(days)
	}
	want := same(days[0])
	days[0].Nodes[0].Tags[0] = tag("z", "z")
	days[0].Nodes[1].Tags = append(days[0].Nodes[1].Tags, tag("z", "z"))
	days[0].Ways[0].Nodes[0] = 77
	days[0].Areas[0].Parts[0] = outer(77)
	days[0].Nodes[1] = impl.Node{}
	if !sameMap(days[1], want) || !sameMap(days[2], want) || !sameChanges(cs, kept) {
		t.Error("a change of one map shows in another, or in the changes")
	}
	if !slices.Equal(days[0].Ways[0].Tags, ts) || !slices.Equal(days[0].Ways[1].Nodes, nodes[:2]) || !slices.Equal(days[0].Areas[1].Parts, parts[:1]) {
		t.Error("a change of one list shows in another")
	}
}

// What was told of before a change of the argument stays as it is.
func TestAnswersDoNotFollowTheChanges(t *testing.T) {
	m, cs, b := town(), oneOfEach()[:1], impl.ChangeBytes(oneOfEach())
	there := town()
	there.Nodes[2].Tags = tags("a", "b", "c", "d")
	diff, bytes := impl.Diff(m, there), impl.ChangeBytes(cs)
	end, _ := impl.Apply(m, cs)
	read, _ := impl.ReadChanges(b)
	keptDiff, keptBytes, keptEnd, keptRead := same(diff), same(bytes), same(end), same(read)
	clear(there.Nodes[2].Tags)
	clear(cs[0].Node.Tags)
	clear(m.Nodes[2].Tags)
	clear(m.Ways[3].Nodes)
	clear(m.Areas[2].Parts)
	clear(b)
	if !sameChanges(diff, keptDiff) || !slices.Equal(bytes, keptBytes) || !sameMap(end, keptEnd) || !sameChanges(read, keptRead) {
		t.Error("an answer changed with an argument")
	}
	if !sameChanges(read, oneOfEach()) {
		t.Error("read", read)
	}
}

// strangeChange has numbers and lists of every kind, whether they fit or not.
func strangeChange(seed int64) impl.Change {
	tell := numbers(seed)
	m := strangeMap(seed)
	c := impl.Change{Kind: tell.Int63n(8)}
	all := append(strange(), 1, 2, 3, impl.MaxId, impl.MaxId+1)
	if tell.Intn(9) == 0 {
		c.Kind = all[tell.Intn(len(all))]
	}
	if len(m.Nodes) > 0 && (c.Kind == impl.PutNode || tell.Intn(9) == 0) {
		c.Node = m.Nodes[0]
	}
	if len(m.Ways) > 0 && (c.Kind == impl.PutWay || tell.Intn(9) == 0) {
		c.Way = m.Ways[0]
	}
	if len(m.Areas) > 0 && (c.Kind == impl.PutArea || tell.Intn(9) == 0) {
		c.Area = m.Areas[0]
	}
	if c.Kind == impl.CutArea || c.Kind >= impl.CutWay || tell.Intn(9) == 0 {
		c.Id = all[tell.Intn(len(all))]
	}
	return c
}

func TestChangesOfEveryKindAreAnswered(t *testing.T) {
	written := 0
	for seed := range int64(20000) {
		cs := []impl.Change{strangeChange(seed), strangeChange(seed + 100000)}[:1+seed%2]
		m := strangeMap(seed)
		want, wanted := appliedOf(m, cs)
		if got, ok := impl.Apply(m, cs); ok != wanted || !sameMap(got, want) {
			t.Fatal("Apply", m, cs, got, ok)
		}
		checkHistory(t, "strange", m, [][]impl.Change{cs}, []impl.Map{want}[:count(wanted)]...)
		got := impl.ChangeBytes(cs)
		if !changesCanBe(cs) && len(got) > 0 || changesCanBe(cs) && !slices.Equal(got, changeBytesOf(cs...)) {
			t.Fatalf("ChangeBytes %v: %q", cs, got)
		}
		written += min(len(got), 1)
		if impl.MapOk(m) {
			checkChanges(t, "strange", impl.Diff(m, town()), diffOf(m, town())...)
		}
	}
	if written < 1000 {
		t.Error("too few were written:", written)
	}
}

func count(ok bool) int {
	if ok {
		return 1
	}
	return 0
}

func TestBytesOfEveryKindAreAnswered(t *testing.T) {
	tell := numbers(37)
	for range 100000 {
		b := []byte("WMD1")
		for range tell.Intn(12) {
			if tell.Intn(3) == 0 {
				b = append(b, byte(tell.Intn(256)))
			} else {
				b = append(b, byte(tell.Intn(7)))
			}
		}
		want, wanted := readOf(b)
		if got, ok := impl.ReadChanges(b); ok != wanted || !sameChanges(got, want) {
			t.Fatalf("%q: %v %v", b, ok, got)
		}
	}
}

func TestTheSameChangesAreAnsweredAgain(t *testing.T) {
	tell := numbers(38)
	for range 200 {
		a, b, cs := someMap(tell), someMap(tell), someChanges(tell, 5)
		diff, bytes, days := impl.Diff(a, b), impl.ChangeBytes(cs), impl.History(a, [][]impl.Change{nil, cs})
		impl.Diff(town(), a)
		impl.ChangeBytes(oneOfEach())
		impl.Apply(town(), oneOfEach())
		for range 3 {
			checkChanges(t, "again", impl.Diff(a, b), diff...)
			checkHistory(t, "again", a, [][]impl.Change{nil, cs}, days...)
			if !slices.Equal(impl.ChangeBytes(cs), bytes) {
				t.Fatal("a call hangs on the one ahead of it")
			}
		}
	}
}
