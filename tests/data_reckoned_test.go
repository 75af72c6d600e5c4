package tests

import (
	"regexp"
	"slices"
	"strings"

	"loop.example/g00024/impl"
)

// This file reckons once more, from the document's words alone, with nothing of the program.

var keyForm = regexp.MustCompile(`\A[a-z0-9:_]{1,40}\z`)
var valueForm = regexp.MustCompile(`\A[\x20-\x7e]{1,100}\z`)

func tagsCanBe(ts []impl.Tag) bool {
	for i, t := range ts {
		if !keyForm.MatchString(t.Key) || !valueForm.MatchString(t.Value) {
			return false
		}
		for _, other := range ts[:i] {
			if strings.Compare(other.Key, t.Key) >= 0 {
				return false
			}
		}
	}
	return len(ts) <= 30
}

func idsCanBe(count int, most int, id func(i int) int64) bool {
	for i := range count {
		if id(i) < 1 || id(i) > 1000000000 || i > 0 && id(i-1) >= id(i) {
			return false
		}
	}
	return count <= most
}

func mapCanBe(m impl.Map) bool {
	ok := idsCanBe(len(m.Nodes), 5000, func(i int) int64 { return m.Nodes[i].Id }) &&
		idsCanBe(len(m.Ways), 1000, func(i int) int64 { return m.Ways[i].Id }) &&
		idsCanBe(len(m.Areas), 300, func(i int) int64 { return m.Areas[i].Id })
	for _, n := range m.Nodes {
		ok = ok && tagsCanBe(n.Tags) && impl.PointOk(n.Point)
	}
	for _, w := range m.Ways {
		ok = ok && tagsCanBe(w.Tags) && 2 <= len(w.Nodes) && len(w.Nodes) <= 2000
		for i, id := range w.Nodes {
			ok = ok && nodeWith(m, id) != nil && (i == 0 || w.Nodes[i-1] != id)
		}
	}
	for _, a := range m.Areas {
		ok = ok && tagsCanBe(a.Tags) && 1 <= len(a.Parts) && len(a.Parts) <= 30
		for i, p := range a.Parts {
			ok = ok && wayWith(m, p.Way) != nil
			for _, other := range a.Parts[:i] {
				ok = ok && other.Way != p.Way
			}
		}
	}
	return ok
}

func nodeWith(m impl.Map, id int64) *impl.Node {
	for i := range m.Nodes {
		if m.Nodes[i].Id == id {
			return &m.Nodes[i]
		}
	}
	return nil
}

func wayWith(m impl.Map, id int64) *impl.Way {
	for i := range m.Ways {
		if m.Ways[i].Id == id {
			return &m.Ways[i]
		}
	}
	return nil
}

func rowOf(m impl.Map, id int64) []impl.Point {
	w := wayWith(m, id)
	if w == nil {
		return nil
	}
	var row []impl.Point
	for _, n := range w.Nodes {
		row = append(row, nodeWith(m, n).Point)
	}
	return row
}

func usersOf(m impl.Map, node int64) []int64 {
	var users []int64
	for _, w := range m.Ways {
		if slices.Index(w.Nodes, node) >= 0 {
			users = append(users, w.Id)
		}
	}
	return users
}

func lies(p impl.Point, b impl.Box) bool {
	return p.X >= b.Low.X && p.Y >= b.Low.Y && p.X <= b.High.X && p.Y <= b.High.Y
}

func cropOf(m impl.Map, b impl.Box) impl.Map {
	kept := func(w impl.Way) bool {
		return slices.ContainsFunc(rowOf(m, w.Id), func(p impl.Point) bool { return lies(p, b) })
	}
	var c impl.Map
	for _, n := range m.Nodes {
		needed := len(n.Tags) > 0 && lies(n.Point, b)
		for _, id := range usersOf(m, n.Id) {
			needed = needed || kept(*wayWith(m, id))
		}
		if needed {
			c.Nodes = append(c.Nodes, n)
		}
	}
	for _, w := range m.Ways {
		if kept(w) {
			c.Ways = append(c.Ways, w)
		}
	}
	for _, a := range m.Areas {
		if !slices.ContainsFunc(a.Parts, func(p impl.Part) bool { return !kept(*wayWith(m, p.Way)) }) {
			c.Areas = append(c.Areas, a)
		}
	}
	return c
}

func unusedOf(m impl.Map) []int64 {
	var ids []int64
	for _, n := range m.Nodes {
		if len(n.Tags) == 0 && len(usersOf(m, n.Id)) == 0 {
			ids = append(ids, n.Id)
		}
	}
	return ids
}

// sameMap holds two maps against each other, with an empty list as nil.
func sameMap(a impl.Map, b impl.Map) bool {
	return slices.EqualFunc(a.Nodes, b.Nodes, func(a impl.Node, b impl.Node) bool {
		return a.Id == b.Id && a.Point == b.Point && slices.Equal(a.Tags, b.Tags)
	}) && slices.EqualFunc(a.Ways, b.Ways, func(a impl.Way, b impl.Way) bool {
		return a.Id == b.Id && slices.Equal(a.Nodes, b.Nodes) && slices.Equal(a.Tags, b.Tags)
	}) && slices.EqualFunc(a.Areas, b.Areas, func(a impl.Area, b impl.Area) bool {
		return a.Id == b.Id && slices.Equal(a.Parts, b.Parts) && slices.Equal(a.Tags, b.Tags)
	})
}
