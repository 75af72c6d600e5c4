package tests

import (
	"encoding/binary"
	"slices"

	"loop.example/g00024/impl"
)

// This file reckons once more, from the document's words alone, with nothing of the program. (Numbers in groups of seven
// bits, and signed ones as 2x or -2x - 1, are the varints of encoding/binary.)

func diffOf(a impl.Map, b impl.Map) []impl.Change {
	var cs []impl.Change
	for _, n := range b.Nodes {
		if old := nodeWith(a, n.Id); old == nil || !sameChange(putNode(*old), putNode(n)) {
			cs = append(cs, putNode(n))
		}
	}
	for _, w := range b.Ways {
		if old := wayWith(a, w.Id); old == nil || !sameChange(putWay(*old), putWay(w)) {
			cs = append(cs, putWay(w))
		}
	}
	for _, old := range a.Areas {
		if areaWith(b, old.Id) == nil {
			cs = append(cs, cutArea(old.Id))
		}
	}
	for _, r := range b.Areas {
		if old := areaWith(a, r.Id); old == nil || !sameChange(putArea(*old), putArea(r)) {
			cs = append(cs, putArea(r))
		}
	}
	for _, old := range a.Ways {
		if wayWith(b, old.Id) == nil {
			cs = append(cs, cutWay(old.Id))
		}
	}
	for _, old := range a.Nodes {
		if nodeWith(b, old.Id) == nil {
			cs = append(cs, cutNode(old.Id))
		}
	}
	return cs
}

func areaWith(m impl.Map, id int64) *impl.Area {
	for i := range m.Areas {
		if m.Areas[i].Id == id {
			return &m.Areas[i]
		}
	}
	return nil
}

// placed is a list with one in the place of what has its Id, or between the others.
func placed[T any](list []T, one T, id func(one T) int64) []T {
	list = without(list, id(one), id)
	at := 0
	for at < len(list) && id(list[at]) < id(one) {
		at++
	}
	return slices.Insert(list, at, one)
}

func without[T any](list []T, gone int64, id func(one T) int64) []T {
	return slices.DeleteFunc(slices.Clone(list), func(one T) bool { return id(one) == gone })
}

// appliedOf goes change by change, and asks in the end whether the map can be.
func appliedOf(m impl.Map, cs []impl.Change) (impl.Map, bool) {
	nodeId := func(n impl.Node) int64 { return n.Id }
	wayId := func(w impl.Way) int64 { return w.Id }
	areaId := func(a impl.Area) int64 { return a.Id }
	if !mapCanBe(m) || len(cs) > 20000 {
		return impl.Map{}, false
	}
	for _, c := range cs {
		switch c.Kind {
		case 1:
			m.Nodes = placed(m.Nodes, c.Node, nodeId)
		case 2:
			m.Ways = placed(m.Ways, c.Way, wayId)
		case 3:
			m.Areas = without(m.Areas, c.Id, areaId)
		case 4:
			m.Areas = placed(m.Areas, c.Area, areaId)
		case 5:
			m.Ways = without(m.Ways, c.Id, wayId)
		case 6:
			m.Nodes = without(m.Nodes, c.Id, nodeId)
		default:
			return impl.Map{}, false
		}
	}
	if !mapCanBe(m) {
		return impl.Map{}, false
	}
	return m, true
}

func tagBytesOf(b []byte, ts []impl.Tag) []byte {
	b = binary.AppendUvarint(b, uint64(len(ts)))
	for _, t := range ts {
		b = append(binary.AppendUvarint(b, uint64(len(t.Key))), t.Key...)
		b = append(binary.AppendUvarint(b, uint64(len(t.Value))), t.Value...)
	}
	return b
}

// changeBytesOf writes whatever it is given, whether it can be or not.
func changeBytesOf(cs ...impl.Change) []byte {
	b := []byte("WMD1")
	for _, c := range cs {
		b = append(b, byte(c.Kind))
		switch c.Kind {
		case impl.PutNode:
			b = binary.AppendUvarint(b, uint64(c.Node.Id))
			b = binary.AppendVarint(binary.AppendVarint(b, c.Node.Point.X), c.Node.Point.Y)
			b = tagBytesOf(b, c.Node.Tags)
		case impl.PutWay:
			b = binary.AppendUvarint(b, uint64(c.Way.Id))
			b = binary.AppendUvarint(b, uint64(len(c.Way.Nodes)))
			for i, id := range c.Way.Nodes {
				if i == 0 {
					b = binary.AppendUvarint(b, uint64(id))
				} else {
					b = binary.AppendVarint(b, id-c.Way.Nodes[i-1])
				}
			}
			b = tagBytesOf(b, c.Way.Tags)
		case impl.PutArea:
			b = binary.AppendUvarint(b, uint64(c.Area.Id))
			b = binary.AppendUvarint(b, uint64(len(c.Area.Parts)))
			for _, p := range c.Area.Parts {
				n := uint64(p.Way) * 2
				if p.Inner {
					n++
				}
				b = binary.AppendUvarint(b, n)
			}
			b = tagBytesOf(b, c.Area.Tags)
		default:
			b = binary.AppendUvarint(b, uint64(c.Id))
		}
	}
	return b
}

func idCanBe(id int64) bool { return id >= 1 && id <= 1000000000 }

// changesCanBe asks all for which the chapter says that there are no bytes.
func changesCanBe(cs []impl.Change) bool {
	ok := len(cs) <= 20000
	for _, c := range cs {
		used := impl.Change{Kind: c.Kind}
		switch c.Kind {
		case 1:
			used.Node = c.Node
			ok = ok && idCanBe(c.Node.Id) && impl.PointOk(c.Node.Point) && tagsCanBe(c.Node.Tags)
		case 2:
			used.Way = c.Way
			ok = ok && idCanBe(c.Way.Id) && len(c.Way.Nodes) <= 2000 && tagsCanBe(c.Way.Tags)
			for _, id := range c.Way.Nodes {
				ok = ok && idCanBe(id)
			}
		case 4:
			used.Area = c.Area
			ok = ok && idCanBe(c.Area.Id) && len(c.Area.Parts) <= 30 && tagsCanBe(c.Area.Tags)
			for _, p := range c.Area.Parts {
				ok = ok && idCanBe(p.Way)
			}
		case 3, 5, 6:
			used.Id = c.Id
			ok = ok && idCanBe(c.Id)
		default:
			ok = false
		}
		ok = ok && sameChange(used, c)
	}
	return ok
}

// bytesToRead is what is left of the bytes; bad when they were none of a number or text.
type bytesToRead struct {
	left []byte
	bad  bool
}

func taken[T any](b *bytesToRead, read func(bytes []byte) (T, int)) T {
	n, size := read(b.left)
	if size <= 0 {
		b.bad, b.left = true, nil
		return n
	}
	b.left = b.left[size:]
	return n
}

func (b *bytesToRead) number() uint64 { return taken(b, binary.Uvarint) }

func (b *bytesToRead) signed() int64 { return taken(b, binary.Varint) }

func (b *bytesToRead) text() string {
	n := b.number()
	if n > uint64(len(b.left)) {
		b.bad, b.left = true, nil
		return ""
	}
	s := string(b.left[:n])
	b.left = b.left[n:]
	return s
}

func (b *bytesToRead) tags() []impl.Tag {
	var ts []impl.Tag
	for n := b.number(); n > 0 && !b.bad; n-- {
		key := b.text()
		ts = append(ts, tag(key, b.text()))
	}
	return ts
}

func (b *bytesToRead) way() impl.Way {
	w := way(int64(b.number()))
	last := int64(0)
	for n := b.number(); n > 0 && !b.bad; n-- {
		if len(w.Nodes) == 0 {
			last = int64(b.number())
		} else {
			last += b.signed()
		}
		w.Nodes = append(w.Nodes, last)
	}
	w.Tags = b.tags()
	return w
}

func (b *bytesToRead) area() impl.Area {
	a := area(int64(b.number()))
	for n := b.number(); n > 0 && !b.bad; n-- {
		p := b.number()
		a.Parts = append(a.Parts, impl.Part{Way: int64(p / 2), Inner: p%2 == 1})
	}
	a.Tags = b.tags()
	return a
}

func (b *bytesToRead) node() impl.Node {
	n := node(int64(b.number()), 0, 0)
	n.Point.X = b.signed()
	n.Point.Y = b.signed()
	n.Tags = b.tags()
	return n
}

// readOf takes what has the form of changes, and then asks whether these can be, and these are their bytes.
func readOf(all []byte) ([]impl.Change, bool) {
	if len(all) < 4 || string(all[:4]) != "WMD1" {
		return nil, false
	}
	b := bytesToRead{left: all[4:]}
	var cs []impl.Change
	for len(b.left) > 0 {
		c := impl.Change{Kind: int64(b.left[0])}
		b.left = b.left[1:]
		switch c.Kind {
		case 1:
			c.Node = b.node()
		case 2:
			c.Way = b.way()
		case 4:
			c.Area = b.area()
		default:
			c.Id = int64(b.number())
		}
		cs = append(cs, c)
	}
	if b.bad || !changesCanBe(cs) || !slices.Equal(changeBytesOf(cs...), all) {
		return nil, false
	}
	return cs, true
}
