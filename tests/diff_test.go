package tests

import (
	"math"
	"slices"
	"testing"

	"loop.example/g00024/impl"
)

// Promise 3, of Diff and Apply: changes lead from one map to the next, and back.

// changed is town with something done to it.
func changed(do func(m *impl.Map)) impl.Map {
	m := same(town())
	do(&m)
	return m
}

func TestDiffTellsEachField(t *testing.T) {
	lake := area(30, inner(1), outer(9))
	shed := node(6, -3, 4, "name", "Shed")
	path := way(7, 1, 4)
	mill := node(3, 10, 10, "name", "Mill")
	for _, c := range []struct {
		name string
		do   func(m *impl.Map)
		want []impl.Change
	}{
		{"nothing", func(m *impl.Map) {}, nil},
		{"a node that is new", func(m *impl.Map) { m.Nodes = slices.Insert(m.Nodes, 5, shed) }, []impl.Change{putNode(shed)}},
		{"a node that is gone", func(m *impl.Map) { m.Nodes = m.Nodes[:7] }, []impl.Change{cutNode(9)}},
		{"a node's X", func(m *impl.Map) { m.Nodes[0].Point.X = 1 }, []impl.Change{putNode(node(1, 1, 0))}},
		{"a node's Y", func(m *impl.Map) { m.Nodes[7].Point.Y = -1 }, []impl.Change{putNode(node(9, 99, -1))}},
		{"a node's Tags", func(m *impl.Map) { m.Nodes[2].Tags = tags("name", "Mill") }, []impl.Change{putNode(mill)}},
		{"a Value", func(m *impl.Map) { m.Nodes[4].Tags[0].Value = "Gates" }, []impl.Change{putNode(node(5, 20, 10, "name", "Gates"))}},
		{"a Key", func(m *impl.Map) { m.Nodes[4].Tags[0].Key = "names" }, []impl.Change{putNode(node(5, 20, 10, "names", "Gate"))}},
		{"no Tags any more", func(m *impl.Map) { m.Nodes[4].Tags = nil }, []impl.Change{putNode(node(5, 20, 10))}},
		{"a way that is new", func(m *impl.Map) { m.Ways = slices.Insert(m.Ways, 3, path) }, []impl.Change{putWay(path)}},
		{"a way's Nodes", func(m *impl.Map) { m.Ways[0].Nodes = []int64{2, 1} }, []impl.Change{putWay(way(1, 2, 1))}},
		{"a way that is longer", func(m *impl.Map) { m.Ways[0].Nodes = []int64{1, 2, 7} }, []impl.Change{putWay(way(1, 1, 2, 7))}},
		{"a way's Tags", func(m *impl.Map) { m.Ways[0].Tags = tags("a", "b") },
			[]impl.Change{putWay(impl.Way{Id: 1, Nodes: []int64{1, 2}, Tags: tags("a", "b")})}},
		{"an area that is new", func(m *impl.Map) { m.Areas = append(m.Areas, lake) }, []impl.Change{putArea(lake)}},
		{"an area that is gone", func(m *impl.Map) { m.Areas = m.Areas[1:] }, []impl.Change{cutArea(1)}},
		{"a Part's Way", func(m *impl.Map) { m.Areas[1].Parts[0].Way = 5 }, []impl.Change{putArea(area(5, inner(5)))}},
		{"a Part's Inner", func(m *impl.Map) { m.Areas[1].Parts[0].Inner = false }, []impl.Change{putArea(area(5, outer(9)))}},
		{"an area's Tags", func(m *impl.Map) { m.Areas[1].Tags = tags("a", "b") },
			[]impl.Change{putArea(impl.Area{Id: 5, Parts: []impl.Part{inner(9)}, Tags: tags("a", "b")})}},
		{"a way that is gone", func(m *impl.Map) { m.Ways, m.Areas[2].Parts = m.Ways[:4], []impl.Part{inner(6)} },
			[]impl.Change{putArea(impl.Area{Id: 20, Parts: []impl.Part{inner(6)}, Tags: m20()}), cutWay(12)}},
	} {
		there := changed(c.do)
		checkChanges(t, c.name, impl.Diff(town(), there), c.want...)
		checkApplied(t, c.name, town(), there, c.want...)
		checkApplied(t, c.name+", and back", there, town(), impl.Diff(there, town())...)
	}
}

func m20() []impl.Tag { return town().Areas[2].Tags }

func TestDiffTellsInOrder(t *testing.T) {
	a, b := blank(30, 20, 10), blank(30, 20, 10)
	a.Nodes, a.Ways, a.Areas = a.Nodes[:24], a.Ways[:14], a.Areas[:6]
	b.Nodes, b.Ways, b.Areas = b.Nodes[2:], b.Ways[3:], b.Areas[4:]
	b.Nodes[0].Tags, b.Nodes[9].Point.Y = tags("a", "b"), 5
	b.Ways[1].Nodes, b.Ways[3].Tags = []int64{5, 9}, tags("a", "b")
	b.Areas[0].Parts, b.Areas[1].Tags = []impl.Part{inner(5)}, tags("a", "b")
	var want []impl.Change
	for _, at := range []int{0, 9, 22, 23, 24, 25, 26, 27} {
		want = append(want, putNode(b.Nodes[at]))
	}
	for _, at := range []int{1, 3, 11, 12, 13, 14, 15, 16} {
		want = append(want, putWay(b.Ways[at]))
	}
	want = append(want, cutArea(1), cutArea(2), cutArea(3), cutArea(4))
	for _, at := range []int{0, 1, 2, 3, 4, 5} {
		want = append(want, putArea(b.Areas[at]))
	}
	want = append(want, cutWay(1), cutWay(2), cutWay(3), cutNode(1), cutNode(2))
	checkChanges(t, "Diff", impl.Diff(a, b), want...)
	checkApplied(t, "Diff", a, b, want...)
	checkApplied(t, "and back", b, a, impl.Diff(b, a)...)
}

func TestDiffOfTheSame(t *testing.T) {
	for _, m := range []impl.Map{{}, town(), blank(50, 40, 30), full()} {
		checkChanges(t, "with itself", impl.Diff(m, m))
		checkChanges(t, "with its like", impl.Diff(m, same(m)))
	}
	// An empty list and nil are the same value.
	a, b := town(), town()
	a.Nodes[0].Tags, a.Ways[0].Tags, a.Areas[1].Tags = []impl.Tag{}, []impl.Tag{}, []impl.Tag{}
	b.Nodes[0].Tags, b.Ways[0].Tags, b.Areas[1].Tags = nil, nil, nil
	checkChanges(t, "empty and nil", append(impl.Diff(a, b), impl.Diff(b, a)...))
	checkChanges(t, "empty and nil", impl.Diff(impl.Map{Nodes: []impl.Node{}}, impl.Map{Ways: []impl.Way{}}))
}

func TestDiffFromNothingAndToNothing(t *testing.T) {
	m := town()
	var put, cut []impl.Change
	for _, n := range m.Nodes {
		put = append(put, putNode(n))
	}
	for _, w := range m.Ways {
		put = append(put, putWay(w))
	}
	for _, a := range m.Areas {
		put, cut = append(put, putArea(a)), append(cut, cutArea(a.Id))
	}
	for _, w := range m.Ways {
		cut = append(cut, cutWay(w.Id))
	}
	for _, n := range m.Nodes {
		cut = append(cut, cutNode(n.Id))
	}
	checkChanges(t, "from nothing", impl.Diff(impl.Map{}, m), put...)
	checkChanges(t, "to nothing", impl.Diff(m, impl.Map{}), cut...)
	checkApplied(t, "from nothing", impl.Map{}, m, put...)
	checkApplied(t, "to nothing", m, impl.Map{}, cut...)
}

// All that two maps can have apart is not more than may be.
func TestDiffOfTheGreatest(t *testing.T) {
	a, b := full(), full()
	for i := range b.Nodes {
		b.Nodes[i].Id += impl.MaxNodes
	}
	for i := range b.Ways {
		b.Ways[i].Id += impl.MaxNodes
		for k := range b.Ways[i].Nodes {
			b.Ways[i].Nodes[k] += impl.MaxNodes
		}
	}
	for i := range b.Areas {
		b.Areas[i].Id += impl.MaxNodes
		for k := range b.Areas[i].Parts {
			b.Areas[i].Parts[k].Way += impl.MaxNodes
		}
	}
	cs := impl.Diff(a, b)
	if len(cs) != 2*(impl.MaxNodes+impl.MaxWays+impl.MaxAreas) {
		t.Fatal(len(cs))
	}
	if got, ok := impl.Apply(a, cs); !ok || !sameMap(got, b) {
		t.Error("does not lead there", ok)
	}
	if got, ok := impl.ReadChanges(impl.ChangeBytes(cs)); !ok || !sameChanges(got, cs) {
		t.Error("is not read as it was", ok)
	}
}

func TestDiffOfNoMap(t *testing.T) {
	eachFault(func(name string, bad impl.Map) {
		checkChanges(t, name+" in a", impl.Diff(bad, town()))
		checkChanges(t, name+" in b", impl.Diff(town(), bad))
		checkChanges(t, name+" in both", impl.Diff(bad, bad))
		checkNotApplied(t, name, bad)
		checkNotApplied(t, name+" with all cut", bad, impl.Diff(town(), impl.Map{})...)
	})
}

func TestDiffsLeadThereAndBack(t *testing.T) {
	tell := numbers(31)
	for range 3000 {
		a, b := someMap(tell), someMap(tell)
		if tell.Intn(2) == 0 {
			b = shaken(tell, a)
		}
		got := impl.Diff(a, b)
		if !mapCanBe(b) {
			checkChanges(t, "to no map", got)
			continue
		}
		checkChanges(t, "Diff", got, diffOf(a, b)...)
		checkApplied(t, "there", a, b, got...)
		checkApplied(t, "back", b, a, impl.Diff(b, a)...)
		read, ok := impl.ReadChanges(impl.ChangeBytes(got))
		if !ok {
			t.Fatal("not read", got)
		}
		checkApplied(t, "by their bytes", a, b, read...)
		if t.Failed() {
			t.FailNow()
		}
	}
}

func TestApplyPutsAndCuts(t *testing.T) {
	m := impl.Map{Nodes: []impl.Node{node(2, 0, 0), node(4, 4, 0, "a", "b"), node(6, 6, 0)}, Ways: []impl.Way{way(4, 2, 4)},
		Areas: []impl.Area{area(4, outer(4))}}
	with := func(do func(m *impl.Map)) impl.Map {
		n := same(m)
		do(&n)
		return n
	}
	for _, c := range []struct {
		name string
		do   func(m *impl.Map)
		by   []impl.Change
	}{
		{"no change", func(m *impl.Map) {}, nil},
		{"a put in the place of a node", func(m *impl.Map) { m.Nodes[1] = node(4, 9, 9) }, []impl.Change{putNode(node(4, 9, 9))}},
		{"a node ahead of all", func(m *impl.Map) { m.Nodes = slices.Insert(m.Nodes, 0, node(1, 9, 9)) }, []impl.Change{putNode(node(1, 9, 9))}},
		{"a node between two", func(m *impl.Map) { m.Nodes = slices.Insert(m.Nodes, 1, node(3, 9, 9)) }, []impl.Change{putNode(node(3, 9, 9))}},
		{"a node behind all", func(m *impl.Map) { m.Nodes = append(m.Nodes, node(impl.MaxId, 9, 9)) }, []impl.Change{putNode(node(impl.MaxId, 9, 9))}},
		{"a put in the place of a way", func(m *impl.Map) { m.Ways[0] = way(4, 6, 2) }, []impl.Change{putWay(way(4, 6, 2))}},
		{"ways on both sides", func(m *impl.Map) { m.Ways = []impl.Way{way(3, 2, 6), way(4, 2, 4), way(5, 4, 6)} },
			[]impl.Change{putWay(way(5, 4, 6)), putWay(way(3, 2, 6))}},
		{"a put in the place of an area", func(m *impl.Map) { m.Areas[0] = area(4, inner(4)) }, []impl.Change{putArea(area(4, inner(4)))}},
		{"areas on both sides", func(m *impl.Map) { m.Areas = []impl.Area{area(1, outer(4)), m.Areas[0], area(9, inner(4))} },
			[]impl.Change{putArea(area(9, inner(4))), putArea(area(1, outer(4)))}},
		{"a cut node", func(m *impl.Map) { m.Nodes = m.Nodes[:2] }, []impl.Change{cutNode(6)}},
		{"a cut area and way", func(m *impl.Map) { m.Areas, m.Ways = nil, nil }, []impl.Change{cutArea(4), cutWay(4)}},
		{"cuts of what is not there", func(m *impl.Map) {}, []impl.Change{cutNode(5), cutWay(2), cutArea(6), cutNode(0), cutWay(-1), cutArea(math.MinInt64)}},
		{"put, cut and put again", func(m *impl.Map) { m.Nodes = slices.Insert(m.Nodes, 2, node(5, 2, 2)) },
			[]impl.Change{putNode(node(5, 1, 1)), cutNode(5), putNode(node(5, 2, 2))}},
		{"put and cut", func(m *impl.Map) {}, []impl.Change{putArea(area(7, inner(4))), putWay(way(9, 2, 6)), cutWay(9), cutArea(7)}},
		{"cut and put", func(m *impl.Map) { m.Ways[0] = way(4, 4, 6) }, []impl.Change{cutWay(4), putWay(way(4, 4, 6))}},
		{"the last of two puts", func(m *impl.Map) { m.Nodes[0] = node(2, 2, 2) }, []impl.Change{putNode(node(2, 1, 1)), putNode(node(2, 2, 2))}},
		{"cut twice", func(m *impl.Map) { m.Nodes = m.Nodes[:2] }, []impl.Change{cutNode(6), cutNode(6)}},
		{"one Id of each kind", func(m *impl.Map) { m.Areas = nil }, []impl.Change{cutArea(4)}},
	} {
		checkApplied(t, c.name, m, with(c.do), c.by...)
	}
}

func TestApplyAsksInTheEnd(t *testing.T) {
	m := impl.Map{Nodes: []impl.Node{node(2, 0, 0), node(4, 4, 0)}, Ways: []impl.Way{way(4, 2, 4)}, Areas: []impl.Area{area(4, outer(4))}}
	for name, cs := range map[string][]impl.Change{
		"a node goes and comes":      {cutNode(2), putNode(node(2, 0, 0))},
		"a way goes and comes":       {cutWay(4), putWay(way(4, 2, 4))},
		"a node that can't be":       {putNode(node(5, impl.MaxCoord+1, 0)), cutNode(5)},
		"an Id that can't be":        {putNode(node(-5, 0, 0)), putWay(way(0, 1, 2)), putArea(area(impl.MaxId + 1)), cutNode(-5), cutWay(0), cutArea(impl.MaxId + 1)},
		"a way that lacks its node":  {putWay(way(5, 2, 7)), cutWay(5)},
		"a way of one node":          {putWay(way(4, 2)), putWay(way(4, 2, 4))},
		"an area that lacks its way": {putArea(area(4, outer(9))), putArea(area(4, outer(4)))},
		"an area ahead of its way":   {putArea(area(5, outer(6))), putWay(way(6, 2, 8)), putNode(node(8, 1, 1)), cutArea(5), cutWay(6), cutNode(8)},
		"tags that can't be":         {putNode(impl.Node{Id: 9, Tags: tags("b", "", "a", "v")}), cutNode(9)},
		"more nodes than may be":     append(puts(101, impl.MaxNodes+5), cuts(101, impl.MaxNodes+5)...),
	} {
		checkApplied(t, name, m, m, cs...)
	}
	for name, cs := range map[string][]impl.Change{
		"a way lacks its node":     {cutNode(2)},
		"an area lacks its way":    {cutWay(4)},
		"a node that can't be":     {putNode(node(5, impl.MaxCoord+1, 0))},
		"an Id of 0":               {putNode(node(0, 0, 0))},
		"a way's Id of 0":          {putWay(way(0, 2, 4))},
		"an area's Id of 0":        {putArea(area(0, outer(4)))},
		"an Id above MaxId":        {putNode(node(impl.MaxId+1, 0, 0))},
		"a way of one node":        {putWay(way(5, 2))},
		"a node twice in a row":    {putWay(way(5, 2, 2))},
		"a way of a missing node":  {putWay(way(5, 2, 3))},
		"an area of no Part":       {putArea(area(5))},
		"an area of a missing way": {putArea(area(5, outer(5)))},
		"tags that can't be":       {putNode(impl.Node{Id: 9, Tags: tags("b", "v", "a", "v")})},
		"a zero put":               {{Kind: impl.PutNode}},
		"more nodes than may be":   puts(101, impl.MaxNodes-1),
	} {
		checkNotApplied(t, name, m, cs...)
	}
	// As many as may be, and no more.
	checkApplied(t, "MaxNodes", impl.Map{}, blank(impl.MaxNodes, 0, 0), puts(1, impl.MaxNodes)...)
	checkNotApplied(t, "MaxNodes + 1", impl.Map{}, puts(1, impl.MaxNodes+1)...)
	checkApplied(t, "MaxNodes with two", m, withNodes(m, 101, impl.MaxNodes-2), puts(101, impl.MaxNodes-2)...)
}

// withNodes is m with those of puts behind its own.
func withNodes(m impl.Map, first int64, count int64) impl.Map {
	m = same(m)
	for _, c := range puts(first, count) {
		m.Nodes = append(m.Nodes, c.Node)
	}
	return m
}

// puts has that many nodes with the Ids from the first on, as in blank.
func puts(first int64, count int64) []impl.Change {
	var cs []impl.Change
	for id := first; id < first+count; id++ {
		cs = append(cs, putNode(node(id, id-1, 0)))
	}
	return cs
}

func cuts(first int64, count int64) []impl.Change {
	var cs []impl.Change
	for id := first; id < first+count; id++ {
		cs = append(cs, cutNode(id))
	}
	return cs
}

func TestApplyKnowsTheKinds(t *testing.T) {
	m := town()
	for _, kind := range []int64{0, 7, 8, 255, 256 + 1, -1, -6, math.MaxInt64, math.MinInt64, 1 << 32, 1<<32 + 1} {
		bad := impl.Change{Kind: kind, Id: 7, Node: node(50, 0, 0)}
		checkNotApplied(t, "alone", m, bad)
		checkNotApplied(t, "first", m, bad, cutNode(9))
		checkNotApplied(t, "in the middle", m, cutNode(9), bad, putNode(node(9, 0, 0)))
		checkNotApplied(t, "last", m, cutNode(9), bad)
		if got := impl.ChangeBytes([]impl.Change{cutNode(9), {Kind: kind, Id: 7}}); len(got) > 0 {
			t.Error("bytes of Kind", kind, got)
		}
		if got := impl.ChangeBytes([]impl.Change{{Kind: kind}}); len(got) > 0 {
			t.Error("bytes of Kind", kind, got)
		}
	}
	checkNotApplied(t, "the zero value", m, impl.Change{})
}

// What a Kind does not use is not asked about here, so it does nothing.
func TestApplyLooksAtWhatTheKindUses(t *testing.T) {
	m := town()
	everything := impl.Change{Node: node(9, 1, 1), Way: way(1, 1, 4), Area: area(5, outer(6)), Id: 9}
	for _, c := range []struct {
		kind int64
		do   func(m *impl.Map)
	}{
		{impl.PutNode, func(m *impl.Map) { m.Nodes[7] = everything.Node }},
		{impl.PutWay, func(m *impl.Map) { m.Ways[0] = everything.Way }},
		{impl.PutArea, func(m *impl.Map) { m.Areas[1] = everything.Area }},
		{impl.CutArea, func(m *impl.Map) {}},
		{impl.CutNode, func(m *impl.Map) { m.Nodes = m.Nodes[:7] }},
	} {
		one := everything
		one.Kind = c.kind
		checkApplied(t, "with everything", m, changed(c.do), one)
	}
}

func TestApplyTakesSoMany(t *testing.T) {
	m := town()
	checkApplied(t, "MaxChanges", m, m, repeated(cutNode(10), impl.MaxChanges)...)
	checkApplied(t, "MaxChanges puts", m, m, repeated(putNode(m.Nodes[2]), impl.MaxChanges)...)
	checkNotApplied(t, "MaxChanges + 1", m, repeated(cutNode(10), impl.MaxChanges+1)...)
	checkNotApplied(t, "far more", m, make([]impl.Change, 1<<18)...)
	last := append(repeated(cutNode(10), impl.MaxChanges-1), putNode(node(9, 3, 3)))
	checkApplied(t, "the last of MaxChanges", m, changed(func(m *impl.Map) { m.Nodes[7] = node(9, 3, 3) }), last...)
}

func TestAppliedByChance(t *testing.T) {
	tell := numbers(32)
	taken := 0
	for range 20000 {
		m, cs := someMap(tell), someChanges(tell, 4)
		if tell.Intn(3) == 0 {
			m = shaken(tell, m)
		}
		want, wanted := appliedOf(m, cs)
		got, ok := impl.Apply(m, cs)
		if ok != wanted || !sameMap(got, want) {
			t.Fatal(m, cs, got, ok)
		}
		if ok {
			taken++
		}
	}
	if taken < 2000 || taken > 18000 {
		t.Error("chance was of no help:", taken)
	}
}
