package tests

import (
	"math/rand"
	"slices"
	"strconv"
	"testing"

	"loop.example/g00024/impl"
)

func tag(key string, value string) impl.Tag { return impl.Tag{Key: key, Value: value} }

func tags(pairs ...string) []impl.Tag {
	var ts []impl.Tag
	for i := 0; i+1 < len(pairs); i += 2 {
		ts = append(ts, tag(pairs[i], pairs[i+1]))
	}
	return ts
}

// manyTags are that many, ascending by Key.
func manyTags(count int) []impl.Tag {
	var ts []impl.Tag
	for i := range count {
		ts = append(ts, tag("k"+strconv.Itoa(1000+i), "v"))
	}
	return ts
}

func node(id int64, x int64, y int64, pairs ...string) impl.Node {
	return impl.Node{Id: id, Point: at(x, y), Tags: tags(pairs...)}
}

func way(id int64, nodes ...int64) impl.Way { return impl.Way{Id: id, Nodes: nodes} }

func outer(way int64) impl.Part { return impl.Part{Way: way} }

func inner(way int64) impl.Part { return impl.Part{Way: way, Inner: true} }

func box(lowX int64, lowY int64, highX int64, highY int64) impl.Box {
	return impl.Box{Low: at(lowX, lowY), High: at(highX, highY)}
}

// town has three of each kind and more, with and without Tags, and Ids that several kinds have.
func town() impl.Map {
	m := impl.Map{
		Nodes: []impl.Node{
			node(1, 0, 0), node(2, 10, 0), node(3, 10, 10, "name", "Mill", "shop", "flour"), node(4, 0, 10),
			node(5, 20, 10, "name", "Gate"), node(7, 15, 5), node(8, 30, 30, "name", "Oak"), node(9, 99, 0),
		},
		Ways: []impl.Way{way(1, 1, 2), way(5, 2, 3), way(6, 3, 4, 1), way(9, 3, 5, 3, 5), way(12, 4, 2, 4)},
		Areas: []impl.Area{
			{Id: 1, Parts: []impl.Part{outer(1), outer(5), outer(6)}},
			{Id: 5, Parts: []impl.Part{inner(9)}},
			{Id: 20, Parts: []impl.Part{outer(12), inner(6)}},
		},
	}
	m.Ways[1].Tags = tags("highway", "street", "name", "Mill Lane")
	m.Ways[3].Tags = tags("highway", "main")
	m.Areas[0].Tags = tags("landuse", "meadow")
	m.Areas[2].Tags = tags("landuse", "wood", "name", "The Wood")
	return m
}

// blank is a map of nodes 1 to that many, along a line, ways 1 to that many from one node to the next, and areas of one way each.
func blank(nodes int, ways int, areas int) impl.Map {
	var m impl.Map
	for i := range int64(nodes) {
		m.Nodes = append(m.Nodes, node(i+1, i, 0))
	}
	for i := range int64(ways) {
		m.Ways = append(m.Ways, way(i+1, i+1, i+2))
	}
	for i := range int64(areas) {
		m.Areas = append(m.Areas, impl.Area{Id: i + 1, Parts: []impl.Part{outer(i + 1)}})
	}
	return m
}

// sway goes to and fro between two nodes.
func sway(a int64, b int64, count int) []int64 {
	nodes := make([]int64, count)
	for i := range nodes {
		nodes[i] = a
		if i%2 == 1 {
			nodes[i] = b
		}
	}
	return nodes
}

// full has as much of everything as may be.
func full() impl.Map {
	m := blank(impl.MaxNodes, impl.MaxWays, impl.MaxAreas)
	for i := range m.Ways {
		m.Ways[i].Nodes = sway(int64(i+1), int64(i+2), impl.MaxRow)
	}
	for i := range m.Areas {
		for k := int64(1); k < impl.MaxTags; k++ {
			m.Areas[i].Parts = append(m.Areas[i].Parts, inner(int64(i)+1+k))
		}
	}
	return m
}

func checkIds(t *testing.T, name string, got []int64, want ...int64) {
	t.Helper()
	if !slices.Equal(got, want) {
		t.Error(name, got, "not", want)
	}
}

func someTags(r *rand.Rand) []impl.Tag {
	var ts []impl.Tag
	for _, key := range []string{"a", "highway", "name"} {
		if r.Intn(4) == 0 {
			ts = append(ts, tag(key, "v"+strconv.Itoa(r.Intn(9))))
		}
	}
	return ts
}

// someIds are ascending, from 1 to 2 times most.
func someIds(r *rand.Rand, most int) []int64 {
	var ids []int64
	for id := int64(1); id <= int64(2*most); id++ {
		if r.Intn(2) == 0 {
			ids = append(ids, id)
		}
	}
	return ids
}

// someMap is one that can be, near the middle of the plane.
func someMap(r *rand.Rand) impl.Map {
	var m impl.Map
	nodes, ways := someIds(r, 8), someIds(r, 4)
	for _, id := range nodes {
		m.Nodes = append(m.Nodes, impl.Node{Id: id, Point: somewhere(r, 6), Tags: someTags(r)})
	}
	if len(nodes) < 2 {
		return m
	}
	for _, id := range ways {
		w := impl.Way{Id: id, Tags: someTags(r)}
		for len(w.Nodes) < 2 || r.Intn(2) == 0 {
			if n := nodes[r.Intn(len(nodes))]; len(w.Nodes) == 0 || w.Nodes[len(w.Nodes)-1] != n {
				w.Nodes = append(w.Nodes, n)
			}
		}
		m.Ways = append(m.Ways, w)
	}
	for _, id := range someIds(r, 2) {
		a := impl.Area{Id: id, Tags: someTags(r)}
		for _, k := range r.Perm(len(ways))[:min(len(ways), 1+r.Intn(3))] {
			a.Parts = append(a.Parts, impl.Part{Way: ways[k], Inner: r.Intn(2) == 0})
		}
		if len(a.Parts) > 0 {
			m.Areas = append(m.Areas, a)
		}
	}
	return m
}

// shaken is a map with one number or text of it changed, so that it may be no map any more.
func shaken(r *rand.Rand, plain impl.Map) impl.Map {
	m := same(plain)
	id := r.Int63n(18) - 1
	switch kind := r.Intn(10); {
	case kind < 3 && len(m.Nodes) > 0:
		n := &m.Nodes[r.Intn(len(m.Nodes))]
		switch kind {
		case 0:
			n.Id = id
		case 1:
			n.Point = somewhere(r, 2*impl.MaxCoord)
		default:
			n.Tags = shakenTags(r, n.Tags)
		}
	case kind < 6 && len(m.Ways) > 0:
		w := &m.Ways[r.Intn(len(m.Ways))]
		switch kind {
		case 3:
			w.Id = id
		case 4:
			w.Nodes[r.Intn(len(w.Nodes))] = id
		default:
			w.Nodes = w.Nodes[r.Intn(len(w.Nodes)):]
		}
	case kind < 9 && len(m.Areas) > 0:
		a := &m.Areas[r.Intn(len(m.Areas))]
		switch kind {
		case 6:
			a.Id = id
		case 7:
			a.Parts[r.Intn(len(a.Parts))].Way = id
		default:
			a.Parts = append(a.Parts, outer(id))
		}
	}
	return m
}

func shakenTags(r *rand.Rand, ts []impl.Tag) []impl.Tag {
	more := tag(string(rune('0'+r.Intn(80))), string(rune(28+r.Intn(102))))
	return slices.Insert(slices.Clone(ts), r.Intn(len(ts)+1), more)
}
