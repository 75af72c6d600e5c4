package tests

import (
	"slices"
	"testing"

	"loop.example/g00024/impl"
)

// Promise 19, of chapter 8: every function answers at every argument and none panics; answers are new memory; arguments stay.

type labelsAndIds struct {
	Labels []impl.Label
	Ids    []int64
}

func askPlace(a labelsAndIds) []int64 { return impl.Place(a.Labels, a.Ids) }

func askWeight(a labelsAndIds) int64 { return impl.Weight(a.Labels, a.Ids) }

func askSpaced(a labelsAndIds) bool { return impl.Spaced(a.Labels, a.Ids) }

// labelsToGuard are of each kind: none, by chance, as many as may be and one more, and such as can't be.
func labelsToGuard() [][]impl.Label {
	list := [][]impl.Label{nil, {}, edgeLabels(), manyLabels(impl.MaxLabels), manyLabels(impl.MaxLabels + 1), {ranked(9, 0, 1), ranked(2, 0, 5), ranked(5, 0, 3)}}
	tell := numbers(103)
	for range 60 {
		list = append(list, someCrowd(tell))
	}
	for _, bad := range badLabels() {
		list = append(list, []impl.Label{ranked(3, 0, 1), bad, ranked(1, 0, 2)})
	}
	return list
}

func TestLabelsStayAndIdsAreNew(t *testing.T) {
	tell := numbers(104)
	var days [][]impl.Label
	for _, ls := range labelsToGuard() {
		checkMemory(t, "LabelsOk", ls, impl.LabelsOk)
		for _, ids := range [][]int64{nil, {3, 1, 2, 1}, someBefore(tell, ls), manyIds(impl.MaxLabels), manyIds(impl.MaxLabels + 1)} {
			checkMemory(t, "Place", labelsAndIds{ls, ids}, askPlace)
			checkMemory(t, "Weight", labelsAndIds{ls, ids}, askWeight)
			checkMemory(t, "Spaced", labelsAndIds{ls, ids}, askSpaced)
		}
		days = append(days, ls, ls)
		checkMemory(t, "Steady", days[max(0, len(days)-impl.MaxDays):], impl.Steady)
	}
	checkMemory(t, "Steady", [][]impl.Label(nil), impl.Steady)
	checkMemory(t, "Steady", slices.Repeat([][]impl.Label{manyLabels(3)}, impl.MaxDays+1), impl.Steady)
}

// What was told before stays as it was, whatever is done to the arguments and to what is told later.
func TestShownIdsDoNotFollow(t *testing.T) {
	ls, before := []impl.Label{ranked(1, 0, 10), ranked(2, 5, 20), ranked(3, 12, 5), ranked(4, 30, 0)}, []int64{1, 4}
	days := [][]impl.Label{ls[:1], ls, ls, ls[2:]}
	ask := func() [][]int64 { return append(impl.Steady(days), impl.Place(ls, before), impl.Place(ls, nil)) }
	first := ask()
	kept := same(first)
	for _, later := range ask() {
		_ = append(later, 9, 9, 9)
		clear(later)
	}
	for _, ids := range first {
		_ = append(ids, 77)
	}
	clear(ls)
	clear(before)
	clear(days)
	if !sameIds(first, kept) || !sameIds(first, [][]int64{{1}, {1, 3, 4}, {1, 3, 4}, {3, 4}, {1, 3, 4}, {2, 4}}) {
		t.Error(first, "not", kept)
	}
}

func TestLabelsOfEveryKindAreAnswered(t *testing.T) {
	tell := numbers(105)
	good := map[bool]int{}
	number := func() int64 {
		return pick(tell, append(strange(), 2, 3, 5, 1000, 1001, 100000, 100001, 1000000000, 1000000001)...)
	}
	for range 20000 {
		ls := someCrowd(tell)
		for i := range ls {
			if tell.Intn(10) > 0 {
				continue
			}
			for _, n := range []*int64{&ls[i].Id, &ls[i].At.X, &ls[i].At.Y, &ls[i].Width, &ls[i].Height, &ls[i].Rank} {
				if tell.Intn(6) == 0 {
					*n = number()
				}
			}
		}
		ids := append(someBefore(tell, ls), number(), number())
		good[labelsCanBe(ls)]++
		checkLabels(t, "strange", ls, labelsCanBe(ls))
		checkPlace(t, "strange", ls, ids, placeOf(ls, ids)...)
		checkWeight(t, "strange", ls, ids, weightOf(ls, ids))
		checkSpaced(t, "strange", ls, ids, spacedOf(ls, ids))
		checkSteady(t, "strange", [][]impl.Label{ls, ls}, steadyOf([][]impl.Label{ls, ls})...)
		if len(ls) > 1 {
			checkOverlap(t, "strange", ls[0], ls[1], overlapOf(ls[0], ls[1]))
		}
		if t.Failed() {
			t.FailNow()
		}
	}
	if good[true] < 5000 || good[false] < 2000 {
		t.Error("too few of a kind:", good)
	}
}

func TestTheSameLabelsAreAnsweredAgain(t *testing.T) {
	tell := numbers(106)
	for range 200 {
		ls := someCrowd(tell)
		before := someBefore(tell, ls)
		shown, steady := impl.Place(ls, before), impl.Steady([][]impl.Label{ls, ls})
		impl.Place(manyLabels(40), nil)
		impl.Spaced(edgeLabels(), manyIds(3))
		for range 3 {
			checkPlace(t, "again", ls, before, shown...)
			checkSteady(t, "again", [][]impl.Label{ls, ls}, steady...)
			checkSpaced(t, "again", ls, shown, true)
		}
	}
}
