package tests

import (
	"math"
	"slices"
	"strconv"
	"strings"

	"loop.example/g00024/impl"
)

// fault is one thing by which a map can't be.
type fault struct {
	name  string
	spoil func(m *impl.Map)
}

// faults are each alone enough, in the map town.
func faults() []fault {
	all := append(idFaults(), tagFaults()...)
	all = append(all, nodeFaults()...)
	all = append(all, wayFaults()...)
	return append(all, areaFaults()...)
}

func idFaults() []fault {
	all := []fault{
		{"nodes out of order", func(m *impl.Map) { m.Nodes[5], m.Nodes[6] = m.Nodes[6], m.Nodes[5] }},
		{"ways out of order", func(m *impl.Map) { m.Ways[3], m.Ways[4] = m.Ways[4], m.Ways[3] }},
		{"areas out of order", func(m *impl.Map) { m.Areas[1], m.Areas[2] = m.Areas[2], m.Areas[1] }},
		{"two nodes with one Id", func(m *impl.Map) { m.Nodes = slices.Insert(m.Nodes, 7, m.Nodes[7]) }},
		{"two ways with one Id", func(m *impl.Map) { m.Ways = slices.Insert(m.Ways, 4, m.Ways[4]) }},
		{"two areas with one Id", func(m *impl.Map) { m.Areas = slices.Insert(m.Areas, 2, m.Areas[2]) }},
	}
	for _, id := range []int64{0, -1, math.MinInt64} {
		all = append(all,
			fault{"a node's Id " + strconv.FormatInt(id, 10), func(m *impl.Map) { m.Nodes = slices.Insert(m.Nodes, 0, node(id, 0, 0)) }},
			fault{"a way's Id " + strconv.FormatInt(id, 10), func(m *impl.Map) { m.Ways = slices.Insert(m.Ways, 0, way(id, 1, 2)) }},
			fault{"an area's Id " + strconv.FormatInt(id, 10), func(m *impl.Map) { m.Areas[0].Id = id }},
		)
	}
	for _, id := range []int64{impl.MaxId + 1, math.MaxInt64} {
		all = append(all,
			fault{"a node's Id " + strconv.FormatInt(id, 10), func(m *impl.Map) { m.Nodes = append(m.Nodes, node(id, 0, 0)) }},
			fault{"a way's Id " + strconv.FormatInt(id, 10), func(m *impl.Map) { m.Ways = append(m.Ways, way(id, 1, 2)) }},
			fault{"an area's Id " + strconv.FormatInt(id, 10), func(m *impl.Map) { m.Areas[2].Id = id }},
		)
	}
	return all
}

func tagFaults() []fault {
	var all []fault
	for name, ts := range noTags() {
		all = append(all,
			fault{"a node's Tags: " + name, func(m *impl.Map) { m.Nodes[7].Tags = ts }},
			fault{"a way's Tags: " + name, func(m *impl.Map) { m.Ways[4].Tags = ts }},
			fault{"an area's Tags: " + name, func(m *impl.Map) { m.Areas[2].Tags = ts }},
		)
	}
	slices.SortFunc(all, func(a fault, b fault) int { return strings.Compare(a.name, b.name) })
	return all
}

// noTags are lists that are no Tags.
func noTags() map[string][]impl.Tag {
	return map[string][]impl.Tag{
		"no Key":           tags("", "v"),
		"no Value":         tags("k", ""),
		"a long Key":       tags(strings.Repeat("k", impl.MaxWord+1), "v"),
		"a long Value":     tags("k", strings.Repeat("v", impl.MaxValue+1)),
		"a great letter":   tags("Key", "v"),
		"a blank in a Key": tags("a b", "v"),
		"a newline":        tags("k", "a\nb"),
		"a byte of 127":    tags("k", "\x7f"),
		"out of order":     tags("b", "v", "a", "v"),
		"a Key twice":      tags("a", "v", "a", "w"),
		"one too many":     manyTags(impl.MaxTags + 1),
	}
}

func nodeFaults() []fault {
	all := []fault{{"too many nodes", func(m *impl.Map) { m.Nodes = blank(impl.MaxNodes+1, 0, 0).Nodes }}}
	for _, p := range outside() {
		all = append(all, fault{"a Point that can't be", func(m *impl.Map) { m.Nodes[7].Point = p }})
		all = append(all, fault{"a first Point that can't be", func(m *impl.Map) { m.Nodes[0].Point = p }})
	}
	return all
}

func wayFaults() []fault {
	shape := func(name string, nodes ...int64) fault {
		return fault{"a way of " + name, func(m *impl.Map) { m.Ways[4].Nodes = nodes }}
	}
	return []fault{
		{"too many ways", func(m *impl.Map) {
			for i := range int64(impl.MaxWays + 1 - 5) {
				m.Ways = append(m.Ways, way(13+i, 1, 2))
			}
		}},
		shape("no node"),
		shape("one node", 1),
		shape("MaxRow + 1 nodes", sway(1, 2, impl.MaxRow+1)...),
		shape("a node that is not there", 1, 6),
		shape("a first node that is not there", 6, 1),
		shape("a node 0", 1, 0, 2),
		shape("a node below 0", 1, -1),
		shape("a node above MaxId", 1, impl.MaxId+1),
		shape("one node twice", 2, 2),
		shape("one node twice at its beginning", 2, 2, 4),
		shape("one node twice at its end", 2, 4, 4),
		{"a way whose node went", func(m *impl.Map) { m.Nodes = slices.Delete(m.Nodes, 4, 5) }},
	}
}

func areaFaults() []fault {
	shape := func(name string, parts ...impl.Part) fault {
		return fault{"an area of " + name, func(m *impl.Map) { m.Areas[2].Parts = parts }}
	}
	return []fault{
		{"too many areas", func(m *impl.Map) {
			for i := range int64(impl.MaxAreas + 1 - 3) {
				m.Areas = append(m.Areas, impl.Area{Id: 21 + i, Parts: []impl.Part{outer(1)}})
			}
		}},
		shape("no Part"),
		shape("a way that is not there", outer(2)),
		shape("a way that is not there, behind another", outer(1), inner(2)),
		shape("a way 0", outer(0)),
		shape("a way that only a node has the Id of", outer(8)),
		shape("one way twice", outer(1), outer(1)),
		shape("one way twice, with another between", outer(1), outer(5), outer(1)),
		shape("one way twice, once inner", outer(1), inner(1)),
		shape("one way twice, once not inner", inner(1), outer(5), outer(1)),
		shape("one way twice, both inner", inner(1), inner(1)),
		{"an area of MaxTags + 1 Parts", func(m *impl.Map) {
			m.Areas[2].Parts = nil
			for i := range int64(impl.MaxTags + 1) {
				m.Ways = append(m.Ways, way(100+i, 1, 2))
				m.Areas[2].Parts = append(m.Areas[2].Parts, outer(100+i))
			}
		}},
		{"an area whose way went", func(m *impl.Map) { m.Ways = slices.Delete(m.Ways, 3, 4) }},
	}
}

// eachFault hands out town with one fault after the other.
func eachFault(ask func(name string, m impl.Map)) {
	for _, f := range faults() {
		m := town()
		f.spoil(&m)
		ask(f.name, m)
	}
}
