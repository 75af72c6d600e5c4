package tests

import (
	"testing"

	"loop.example/g00024/impl"
)

// Promise 3, of History: histories go day by day.

func checkHistory(t *testing.T, name string, m impl.Map, days [][]impl.Change, want ...impl.Map) {
	t.Helper()
	got := impl.History(m, days)
	if len(got) != len(want) {
		t.Errorf("%s: %d maps, not %d", name, len(got), len(want))
		return
	}
	for i := range want {
		if !sameMap(got[i], want[i]) {
			t.Errorf("%s: on day %d\n%v, not\n%v", name, i, got[i], want[i])
		}
	}
}

func TestHistoryGoesDayByDay(t *testing.T) {
	m := impl.Map{Nodes: []impl.Node{node(1, 0, 0), node(2, 5, 0)}}
	first := impl.Map{Nodes: []impl.Node{node(1, 0, 0), node(2, 5, 0), node(3, 5, 5)}}
	second := impl.Map{Nodes: first.Nodes, Ways: []impl.Way{way(1, 1, 3)}}
	third := impl.Map{Nodes: []impl.Node{node(1, 7, 7), node(3, 5, 5)}, Ways: second.Ways}
	days := [][]impl.Change{{putNode(node(3, 5, 5))}, {putWay(way(1, 1, 3))}, {cutNode(2), putNode(node(1, 7, 7))}}
	no, bad := []impl.Change{}, []impl.Change{cutNode(1), {Kind: 7}}
	stranded := []impl.Change{cutNode(3)}
	checkHistory(t, "no day", m, nil)
	checkHistory(t, "one day", m, days[:1], first)
	checkHistory(t, "three days", m, days, first, second, third)
	checkHistory(t, "days without changes", m, [][]impl.Change{no, nil, days[0], no, days[1], nil}, m, m, first, first, second, second)
	checkHistory(t, "a first day that fails", m, [][]impl.Change{bad, days[0], no})
	checkHistory(t, "a day that fails in the middle", m, [][]impl.Change{days[0], bad, days[1]}, first)
	checkHistory(t, "one that fails on this day alone", m, [][]impl.Change{days[0], days[1], stranded, days[2]}, first, second)
	checkHistory(t, "one that fails at the end", m, [][]impl.Change{days[0], days[1], days[2], bad}, first, second, third)
	checkHistory(t, "too many changes on one day", m, [][]impl.Change{days[0], repeated(cutNode(9), impl.MaxChanges+1), no}, first)
	checkHistory(t, "as many changes as may be, on two days", m,
		[][]impl.Change{repeated(cutNode(9), impl.MaxChanges), repeated(cutNode(9), impl.MaxChanges)}, m, m)
	checkHistory(t, "from the empty map", impl.Map{}, [][]impl.Change{nil, {putNode(node(4, 4, 4))}}, impl.Map{}, impl.Map{Nodes: []impl.Node{node(4, 4, 4)}})
}

func TestHistoryOfSoManyDays(t *testing.T) {
	var days [][]impl.Change
	var want []impl.Map
	for i := range int64(impl.MaxDays) {
		days = append(days, []impl.Change{putNode(node(i+1, i, 0))})
		want = append(want, blank(int(i)+1, 0, 0))
	}
	checkHistory(t, "MaxDays", impl.Map{}, days, want...)
	checkHistory(t, "MaxDays + 1", impl.Map{}, append(days, nil))
	checkHistory(t, "MaxDays + 1 of which one fails", impl.Map{}, append([][]impl.Change{{{}}}, days...))
	checkHistory(t, "far more", impl.Map{}, make([][]impl.Change, 1<<16))
}

func TestHistoryOfNoMap(t *testing.T) {
	eachFault(func(name string, bad impl.Map) {
		checkHistory(t, name, bad, [][]impl.Change{nil, nil})
		checkHistory(t, name, bad, [][]impl.Change{impl.Diff(town(), impl.Map{}), nil})
		checkHistory(t, name, bad, nil)
	})
}

func TestHistoryByChance(t *testing.T) {
	tell := numbers(35)
	lengths := map[int]int{}
	for range 3000 {
		m := someMap(tell)
		if tell.Intn(8) == 0 {
			m = shaken(tell, m)
		}
		var days [][]impl.Change
		var want []impl.Map
		for range tell.Intn(6) {
			days = append(days, someChanges(tell, 1))
		}
		for now, ok := m, true; len(want) < len(days); want = append(want, now) {
			if now, ok = appliedOf(now, days[len(want)]); !ok {
				break
			}
		}
		checkHistory(t, "by chance", m, days, want...)
		lengths[len(want)]++
		if t.Failed() {
			t.FailNow()
		}
	}
	if len(lengths) < 6 {
		t.Error("chance was of no help:", lengths)
	}
}
