package impl

import (
	"errors"
	"slices"
	"testing"
)

// Each fault is refused for its own reason, at its own place: a fault that another hides would not be found from outside.
func TestRefusalsSayWhy(t *testing.T) {
	good := Change{Kind: CutNode, Id: 1}
	long, many := make([]int64, MaxRow+1), make([]Part, MaxTags+1)
	for i := range long {
		long[i] = int64(i + 1)
	}
	for i := range many {
		many[i].Way = 1
	}
	for _, c := range []struct {
		bad  Change
		want error
	}{
		{Change{}, errKind},
		{Change{Kind: 7, Id: 1}, errKind},
		{Change{Kind: CutNode}, errId},
		{Change{Kind: CutWay, Id: MaxId + 1}, errId},
		{Change{Kind: CutArea, Id: -1}, errId},
		{Change{Kind: PutNode}, errId},
		{Change{Kind: PutNode, Node: Node{Id: 1, Point: Point{X: MaxCoord + 1}}}, errPoint},
		{Change{Kind: PutNode, Node: Node{Id: 1, Tags: []Tag{{}}}}, errTags},
		{Change{Kind: PutNode, Node: Node{Id: 1}, Id: 1}, errLeft},
		{Change{Kind: PutWay, Way: Way{Id: 1, Nodes: []int64{0}}}, errId},
		{Change{Kind: PutWay, Way: Way{Id: 1, Nodes: long}}, errMany},
		{Change{Kind: PutWay, Way: Way{Id: 1, Tags: []Tag{{}}}}, errTags},
		{Change{Kind: PutArea, Area: Area{Id: 1, Parts: many}}, errMany},
		{Change{Kind: PutArea, Area: Area{Id: 1, Parts: many[:1], Tags: []Tag{{}}}}, errTags},
		{Change{Kind: CutNode, Id: 1, Way: Way{Id: 1}}, errLeft},
	} {
		_, err := bytesOf([]Change{good, good, c.bad, {}})
		var r refusal
		if !errors.Is(err, c.want) || !errors.As(err, &r) || r.place != 2 {
			t.Error(c.bad, err)
		}
		if err != nil && err.Error() != "change 2: "+c.want.Error() {
			t.Error(err)
		}
	}
	if _, err := bytesOf(slices.Repeat([]Change{good}, MaxChanges+1)); !errors.Is(err, errMany) {
		t.Error(err)
	}
	if b, err := bytesOf([]Change{good}); err != nil || string(b) != "WMD1\x06\x01" {
		t.Error(b, err)
	}
}

func TestReadingFaultsSayWhy(t *testing.T) {
	for bytes, want := range map[string]error{
		"WMD":          errMark,
		"WMD1\x07\x01": errKind,
		"WMD1\x06":     errShort,
		"WMD1\x06\x80": errShort,
		"WMD1\x06\xff\xff\xff\xff\xff\xff\xff\xff\xff\x01": errGreat,
		"WMD1\x02\x01\x7f\x01":                             errShort,
		"WMD1\x01\x01\x00\x00\x01\x05a":                    errShort,
		"WMD1\x01\x01\x00\x00\x01\x01a\x02b":               errShort,
	} {
		if cs, err := changesIn([]byte(bytes)); !errors.Is(err, want) || cs != nil {
			t.Errorf("%q: %v %v", bytes, cs, err)
		}
	}
	if cs, err := changesIn([]byte("WMD1")); err != nil || len(cs) > 0 {
		t.Error(cs, err)
	}
}

// A loop over a count must end at the first fault, not at the count.
func TestReaderStopsAtItsFault(t *testing.T) {
	r := byteReader{rest: []byte("\xff\xff\xff\xff\xff\xff\xff\xff\x7f\x01\x02")}
	if list := several(&r, r.number); len(list) > 3 || !errors.Is(r.fault, errShort) {
		t.Error(len(list), r.fault)
	}
}
