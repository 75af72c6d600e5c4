package tests

import (
	"math/rand"
	"slices"
	"testing"

	"loop.example/g00024/impl"
)

func putNode(n impl.Node) impl.Change { return impl.Change{Kind: impl.PutNode, Node: n} }

func putWay(w impl.Way) impl.Change { return impl.Change{Kind: impl.PutWay, Way: w} }

func putArea(a impl.Area) impl.Change { return impl.Change{Kind: impl.PutArea, Area: a} }

func cutNode(id int64) impl.Change { return impl.Change{Kind: impl.CutNode, Id: id} }

func cutWay(id int64) impl.Change { return impl.Change{Kind: impl.CutWay, Id: id} }

func cutArea(id int64) impl.Change { return impl.Change{Kind: impl.CutArea, Id: id} }

func area(id int64, parts ...impl.Part) impl.Area { return impl.Area{Id: id, Parts: parts} }

// sameChange holds two changes against each other, with an empty list as nil.
func sameChange(a impl.Change, b impl.Change) bool {
	return a.Kind == b.Kind && a.Id == b.Id && sameMap(
		impl.Map{Nodes: []impl.Node{a.Node}, Ways: []impl.Way{a.Way}, Areas: []impl.Area{a.Area}},
		impl.Map{Nodes: []impl.Node{b.Node}, Ways: []impl.Way{b.Way}, Areas: []impl.Area{b.Area}})
}

func sameChanges(a []impl.Change, b []impl.Change) bool { return slices.EqualFunc(a, b, sameChange) }

func checkChanges(t *testing.T, name string, got []impl.Change, want ...impl.Change) {
	t.Helper()
	if !sameChanges(got, want) {
		t.Errorf("%s\n%v, not\n%v", name, got, want)
	}
}

func checkApplied(t *testing.T, name string, m impl.Map, want impl.Map, cs ...impl.Change) {
	t.Helper()
	if got, ok := impl.Apply(m, cs); !ok || !sameMap(got, want) {
		t.Errorf("%s: %v\n%v, not\n%v", name, ok, got, want)
	}
}

func checkNotApplied(t *testing.T, name string, m impl.Map, cs ...impl.Change) {
	t.Helper()
	if got, ok := impl.Apply(m, cs); ok || !sameMap(got, impl.Map{}) {
		t.Error(name, "was taken:", ok, got)
	}
}

// repeated is a list of that many of one change.
func repeated(c impl.Change, count int) []impl.Change {
	cs := make([]impl.Change, count)
	for i := range cs {
		cs[i] = c
	}
	return cs
}

// oneOfEach has a change of each Kind, each with as many lists as it can have.
func oneOfEach() []impl.Change {
	w, a := way(400, 1, 300, 2, 2), area(7, outer(400), inner(1))
	w.Tags, a.Tags = tags("highway", "street"), tags("landuse", "wood", "name", "The Wood")
	return []impl.Change{
		putNode(node(300, -5, 64, "name", "Mill", "shop", "flour")), putWay(w), cutArea(9), putArea(a), cutWay(128), cutNode(impl.MaxId),
	}
}

// someChange is one that can be written; whether it fits a map is left to chance.
func someChange(r *rand.Rand) impl.Change {
	id := 1 + r.Int63n(18)
	switch r.Intn(8) {
	case 0, 1:
		return putNode(impl.Node{Id: id, Point: somewhere(r, 6), Tags: someTags(r)})
	case 2, 3:
		w := impl.Way{Id: id, Tags: someTags(r)}
		for range r.Intn(5) {
			w.Nodes = append(w.Nodes, 1+r.Int63n(18))
		}
		return putWay(w)
	case 4:
		a := impl.Area{Id: id, Tags: someTags(r)}
		for range r.Intn(3) {
			a.Parts = append(a.Parts, impl.Part{Way: 1 + r.Int63n(9), Inner: r.Intn(2) == 0})
		}
		return putArea(a)
	case 5:
		return cutArea(id)
	case 6:
		return cutWay(id)
	}
	return cutNode(id)
}

func someChanges(r *rand.Rand, most int) []impl.Change {
	var cs []impl.Change
	for range r.Intn(most + 1) {
		cs = append(cs, someChange(r))
	}
	return cs
}
