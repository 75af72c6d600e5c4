package tests

import (
	"math"
	"slices"
	"strconv"
	"strings"

	"loop.example/g00024/impl"
)

// badChange is one for which there are no bytes.
type badChange struct {
	name   string
	change impl.Change
}

// badChanges has each thing for which the chapter says that there are no bytes, one by one.
func badChanges() []badChange {
	all := append(badIds(), badPoints()...)
	all = append(all, badTags()...)
	all = append(all, badLists()...)
	return append(all, leftovers()...)
}

func badIds() []badChange {
	var all []badChange
	for _, id := range []int64{0, -1, impl.MaxId + 1, math.MaxInt64, math.MinInt64} {
		name := " " + strconv.FormatInt(id, 10)
		all = append(all,
			badChange{"a node's Id" + name, putNode(node(id, 1, 2, "a", "b"))},
			badChange{"a way's Id" + name, putWay(way(id, 1, 2))},
			badChange{"an area's Id" + name, putArea(area(id, outer(1)))},
			badChange{"a cut node's Id" + name, cutNode(id)},
			badChange{"a cut way's Id" + name, cutWay(id)},
			badChange{"a cut area's Id" + name, cutArea(id)},
			badChange{"a way's first node" + name, putWay(way(5, id, 2, 3))},
			badChange{"a way's second node" + name, putWay(way(5, 1, id, 3))},
			badChange{"a way's last node" + name, putWay(way(5, 1, 2, id))},
			badChange{"an area's first way" + name, putArea(area(5, outer(id), outer(1)))},
			badChange{"an area's last way" + name, putArea(area(5, outer(1), inner(id)))},
		)
	}
	return all
}

func badPoints() []badChange {
	var all []badChange
	for _, p := range outside() {
		all = append(all, badChange{"a Point that can't be", putNode(impl.Node{Id: 3, Point: p})})
	}
	return all
}

func badTags() []badChange {
	var all []badChange
	for name, ts := range noTags() {
		all = append(all,
			badChange{"a node's tags: " + name, putNode(impl.Node{Id: 3, Tags: ts})},
			badChange{"a way's tags: " + name, putWay(impl.Way{Id: 3, Nodes: []int64{1, 2}, Tags: ts})},
			badChange{"an area's tags: " + name, putArea(impl.Area{Id: 3, Parts: []impl.Part{outer(1)}, Tags: ts})},
		)
	}
	slices.SortFunc(all, func(a badChange, b badChange) int { return strings.Compare(a.name, b.name) })
	return all
}

func badLists() []badChange {
	return []badChange{
		{"MaxRow + 1 nodes", putWay(way(3, sway(1, 2, impl.MaxRow+1)...))},
		{"many more nodes", putWay(way(3, sway(1, 2, 1<<18)...))},
		{"MaxTags + 1 parts", putArea(area(3, manyParts(impl.MaxTags+1)...))},
		{"many more parts", putArea(area(3, manyParts(1<<18)...))},
	}
}

func manyParts(count int) []impl.Part {
	var parts []impl.Part
	for i := range int64(count) {
		parts = append(parts, impl.Part{Way: i + 1, Inner: i%2 == 1})
	}
	return parts
}

// leftovers are good changes with one thing more, which the Kind does not use.
func leftovers() []badChange {
	var all []badChange
	for _, good := range oneOfEach() {
		for _, more := range []struct {
			name string
			kind int64
			add  func(c *impl.Change)
		}{
			{"a node's Id", impl.PutNode, func(c *impl.Change) { c.Node.Id = 1 }},
			{"a node's Id below 0", impl.PutNode, func(c *impl.Change) { c.Node.Id = -1 }},
			{"a node's X", impl.PutNode, func(c *impl.Change) { c.Node.Point.X = 1 }},
			{"a node's Y", impl.PutNode, func(c *impl.Change) { c.Node.Point.Y = -1 }},
			{"a node's tags", impl.PutNode, func(c *impl.Change) { c.Node.Tags = tags("a", "b") }},
			{"a node's empty tag", impl.PutNode, func(c *impl.Change) { c.Node.Tags = tags("", "") }},
			{"a way's Id", impl.PutWay, func(c *impl.Change) { c.Way.Id = 1 }},
			{"a way's nodes", impl.PutWay, func(c *impl.Change) { c.Way.Nodes = []int64{1, 2} }},
			{"a way's node 0", impl.PutWay, func(c *impl.Change) { c.Way.Nodes = []int64{0} }},
			{"a way's tags", impl.PutWay, func(c *impl.Change) { c.Way.Tags = tags("a", "b") }},
			{"an area's Id", impl.PutArea, func(c *impl.Change) { c.Area.Id = 1 }},
			{"an area's parts", impl.PutArea, func(c *impl.Change) { c.Area.Parts = []impl.Part{outer(1)} }},
			{"an area's zero part", impl.PutArea, func(c *impl.Change) { c.Area.Parts = []impl.Part{{}} }},
			{"an area's tags", impl.PutArea, func(c *impl.Change) { c.Area.Tags = tags("a", "b") }},
			{"an Id", 0, func(c *impl.Change) { c.Id = 1 }},
			{"an Id below 0", 0, func(c *impl.Change) { c.Id = math.MinInt64 }},
			{"the Id of what it puts", 0, func(c *impl.Change) { c.Id = c.Node.Id + c.Way.Id + c.Area.Id }},
		} {
			isPut := good.Kind == impl.PutNode || good.Kind == impl.PutWay || good.Kind == impl.PutArea
			if more.kind == good.Kind || more.kind == 0 && !isPut {
				continue
			}
			c := same(good)
			more.add(&c)
			all = append(all, badChange{more.name + " beside Kind " + strconv.FormatInt(good.Kind, 10), c})
		}
	}
	return all
}
