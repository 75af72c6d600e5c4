package tests

import (
	"math"
	"slices"
	"testing"

	"loop.example/g00024/impl"
)

// Promise 8: labels never overlap; what is not shown gives way to what counts as much; what is shown stays while nothing moves.

func TestLabelsThatCanBe(t *testing.T) {
	checkLabels(t, "none", nil, true)
	checkLabels(t, "none", []impl.Label{}, true)
	checkLabels(t, "several", []impl.Label{ranked(9, 0, 1), ranked(2, 0, 1), ranked(5, 0, 1)}, true)
	checkLabels(t, "at the edges", edgeLabels(), true)
	for _, l := range edgeLabels() {
		checkLabels(t, "at an edge", []impl.Label{l}, true)
	}
	checkLabels(t, "MaxLabels", manyLabels(500), true)
	checkLabels(t, "one more", manyLabels(501), false)
	checkLabels(t, "far more", make([]impl.Label, 1<<20), false)
}

func TestLabelsThatCanNotBe(t *testing.T) {
	for _, bad := range badLabels() {
		checkLabels(t, "alone", []impl.Label{bad}, false)
		for i := range 4 {
			checkLabels(t, "among others", slices.Insert(manyLabels(3), i, bad), false)
		}
		full := manyLabels(impl.MaxLabels)
		full[499] = bad
		checkLabels(t, "the last of many", full, false)
	}
	checkLabels(t, "one Id", []impl.Label{ranked(4, 0, 1), ranked(4, 500, 2)}, false)
	checkLabels(t, "one label twice", []impl.Label{ranked(4, 0, 1), ranked(4, 0, 1)}, false)
	checkLabels(t, "one Id, not beside each other", []impl.Label{ranked(4, 0, 1), ranked(5, 500, 2), ranked(4, 900, 3)}, false)
	full := manyLabels(impl.MaxLabels)
	full[499].Id = 1
	checkLabels(t, "one Id, the first and the last", full, false)
}

func TestOverlap(t *testing.T) {
	a := room(1, 10, 20, 5, 3) // (10, 20) to (14, 22)
	checkOverlap(t, "itself", a, a, true)
	checkOverlap(t, "the same room", a, room(2, 10, 20, 5, 3), true)
	checkOverlap(t, "one within the other", a, room(2, 11, 21, 2, 1), true)
	checkOverlap(t, "one within the other, at a corner", a, room(2, 14, 22, 1, 1), true)
	checkOverlap(t, "across", a, room(2, 12, 0, 1, 100), true)
	for name, p := range map[string]impl.Point{"at the east edge": at(15, 20), "at the west edge": at(5, 20), "at the north edge": at(10, 23), "at the south edge": at(10, 17)} {
		checkOverlap(t, name, a, room(2, p.X, p.Y, 5, 3), false)
	}
	for name, p := range map[string]impl.Point{"northeast": at(15, 23), "southeast": at(15, 17), "northwest": at(5, 23), "southwest": at(5, 17)} {
		checkOverlap(t, "at the corner "+name, a, room(2, p.X, p.Y, 5, 3), false)
		// One nearer in both, and there is one place in common.
		x, y := p.X+1, p.Y+1
		if p.X == 15 {
			x = p.X - 1
		}
		if p.Y == 23 {
			y = p.Y - 1
		}
		checkOverlap(t, "one place in common "+name, a, room(2, x, y, 5, 3), true)
		checkOverlap(t, "nearer in X alone "+name, a, room(2, x, p.Y, 5, 3), false)
		checkOverlap(t, "nearer in Y alone "+name, a, room(2, p.X, y, 5, 3), false)
	}
	checkOverlap(t, "far away", a, room(2, 5000, 5000, 5, 3), false)
	checkOverlap(t, "one Id is no question", a, room(1, 5000, 5000, 5, 3), false)
	checkOverlap(t, "the greatest, beside each other", room(1, 0, 0, 100000, 100000), room(2, 100000, 0, 100000, 100000), false)
	checkOverlap(t, "the greatest, by one", room(1, 0, 0, 100000, 100000), room(2, 99999, 99999, 100000, 100000), true)
	checkOverlap(t, "beyond the plane", room(1, impl.MaxCoord, impl.MaxCoord, 9, 9), room(2, impl.MaxCoord-5, impl.MaxCoord-5, 9, 9), true)
	for _, bad := range badLabels() {
		checkOverlap(t, "one that can't be", a, bad, false)
		checkOverlap(t, "one that can't be", room(9, 3, 0, 10, 5), bad, false)
		checkOverlap(t, "both that can't be", bad, bad, false)
	}
	for _, edge := range edgeLabels() {
		checkOverlap(t, "itself", edge, edge, true)
	}
}

// Small rooms, place by place.
func TestOverlapIsAPlaceInCommon(t *testing.T) {
	a := room(1, 0, 0, 3, 2)
	for x := int64(-4); x <= 4; x++ {
		for y := int64(-4); y <= 4; y++ {
			for width := int64(1); width <= 4; width++ {
				for height := int64(1); height <= 4; height++ {
					b, common := room(2, x, y, width, height), false
					for p := range roomOf(b) {
						common = common || roomOf(a)[p]
					}
					checkOverlap(t, "place by place", a, b, common)
				}
			}
		}
	}
}

func TestOverlapAgainstTheWords(t *testing.T) {
	tell := numbers(98)
	both := map[bool]int{}
	for range 20000 {
		ls := crowd(tell, 2, pick(tell, at(0, 0), at(impl.MaxCoord, impl.MaxCoord)), pick(tell, int64(8), 90000), pick(tell, int64(6), 100000))
		want := overlapOf(ls[0], ls[1])
		both[want]++
		checkOverlap(t, "by chance", ls[0], ls[1], want)
	}
	if both[true] < 1000 || both[false] < 1000 {
		t.Error("too few of a kind:", both)
	}
}

func TestPlace(t *testing.T) {
	ls := []impl.Label{ranked(1, 0, 10), ranked(2, 5, 20), ranked(3, 12, 5), ranked(4, 30, 0)}
	checkPlace(t, "none", nil, nil)
	checkPlace(t, "none", []impl.Label{}, []int64{1, 2})
	checkPlace(t, "by rank", ls, nil, 2, 4)
	checkPlace(t, "one before", ls, []int64{1}, 1, 3, 4)
	checkPlace(t, "the same before", ls, []int64{2, 4}, 2, 4)
	checkPlace(t, "none overlap", manyLabels(9), nil, manyIds(9)...)
	checkPlace(t, "all overlap", []impl.Label{ranked(5, 0, 3), ranked(6, 1, 7), ranked(7, 2, 5)}, nil, 6)
	checkPlace(t, "one is enough", []impl.Label{ranked(5, 0, 0)}, nil, 5)
	// Of the same rank the less Id goes first.
	checkPlace(t, "by Id", []impl.Label{ranked(9, 0, 3), ranked(8, 5, 3), ranked(7, 10, 3)}, nil, 7, 9)
	checkPlace(t, "by Id", []impl.Label{ranked(7, 0, 3), ranked(8, 5, 3), ranked(9, 10, 3)}, nil, 7, 9)
	checkPlace(t, "by Id", []impl.Label{ranked(9, 0, 3), ranked(7, 5, 3), ranked(8, 10, 3)}, nil, 7)
	checkPlace(t, "by Id as a number", []impl.Label{ranked(10, 0, 3), ranked(9, 5, 3)}, nil, 9)
	checkPlace(t, "by rank ahead of the Id", []impl.Label{ranked(1, 0, 3), ranked(2, 5, 4)}, nil, 2)
	// One that gives way keeps nothing from being shown.
	checkPlace(t, "beside what gave way", []impl.Label{ranked(1, 0, 9), ranked(2, 9, 8), ranked(3, 18, 7)}, nil, 1, 3)
	checkPlace(t, "the greatest rank", []impl.Label{ranked(1, 0, 999), ranked(2, 5, 1000)}, nil, 2)
	checkPlace(t, "at the edges", edgeLabels(), nil, 1, 2, 3, 999999999, 1000000000)
}

func TestPlaceWithThoseOfBefore(t *testing.T) {
	two := func(rank int64) []impl.Label { return []impl.Label{ranked(1, 0, rank), ranked(2, 5, 100)} }
	checkPlace(t, "50 less, before", two(50), []int64{1}, 1)
	checkPlace(t, "51 less, before", two(49), []int64{1}, 2)
	checkPlace(t, "50 less, the other has the less Id", []impl.Label{ranked(3, 0, 50), ranked(2, 5, 100)}, []int64{3}, 2)
	checkPlace(t, "49 less, the other has the less Id", []impl.Label{ranked(3, 0, 51), ranked(2, 5, 100)}, []int64{3}, 3)
	checkPlace(t, "both before", two(99), []int64{1, 2}, 2)
	checkPlace(t, "the other before", two(120), []int64{2}, 2)
	checkPlace(t, "the other before", two(150), []int64{2}, 1)
	checkPlace(t, "not there", two(60), []int64{7, -1, 0, math.MaxInt64, math.MinInt64}, 2)
	checkPlace(t, "not there, and there", two(60), []int64{7, 1, 8}, 1)
	// 50 is added once.
	checkPlace(t, "twice", two(49), []int64{1, 1}, 2)
	checkPlace(t, "thrice", two(49), []int64{1, 5, 1, 1}, 2)
	checkPlace(t, "twice, and enough", two(50), []int64{1, 1}, 1)
	checkPlace(t, "above the greatest rank", []impl.Label{ranked(1, 0, 1000), ranked(2, 5, 951)}, []int64{2}, 2)
	checkPlace(t, "above the greatest rank", []impl.Label{ranked(1, 0, 1000), ranked(2, 5, 950)}, []int64{2}, 1)
	checkPlace(t, "above the greatest rank", []impl.Label{ranked(1, 0, 1000), ranked(2, 5, 1000)}, []int64{2}, 2)
	checkPlace(t, "MaxLabels of before", two(50), manyIds(500), 2)
	only := append(slices.Repeat([]int64{1}, 499), 7)
	checkPlace(t, "MaxLabels of before", two(50), only, 1)
	checkPlace(t, "one more", two(50), append(only, 8))
	checkPlace(t, "one more, none there", two(50), make([]int64, 501))
	checkPlace(t, "one more, no labels", nil, make([]int64, 501))
	checkPlace(t, "far more", two(50), make([]int64, 1<<20))
}

func TestPlaceOfWhatCannotBe(t *testing.T) {
	for _, bad := range badLabels() {
		checkPlace(t, "one that can't be", []impl.Label{bad}, nil)
		checkPlace(t, "one that can't be", []impl.Label{ranked(1, 0, 1), bad, ranked(2, 900, 1)}, []int64{1})
	}
	checkPlace(t, "one Id", []impl.Label{ranked(1, 0, 1), ranked(1, 900, 1)}, nil)
	checkPlace(t, "MaxLabels", manyLabels(impl.MaxLabels), nil, manyIds(500)...)
	checkPlace(t, "one more", manyLabels(impl.MaxLabels+1), nil)
	checkPlace(t, "both too many", manyLabels(impl.MaxLabels+1), make([]int64, 501))
}

// Rooms of the greatest measure, side by side and one on the other, wherever they lie.
func TestGreatRooms(t *testing.T) {
	const side = 100000
	var field []impl.Label
	for x := range int64(10) {
		for y := range int64(10) {
			field = append(field, room(1+10*x+y, side*x-450000, side*y-550000, side, side))
		}
	}
	checkPlace(t, "a field", field, nil, manyIds(100)...)
	for _, off := range []impl.Point{at(1, 0), at(0, 1), at(-1, 0), at(0, -1), at(50000, 50000), at(99999, 99999), at(-99999, -99999), at(99999, -99999)} {
		one := room(1000, field[44].At.X+off.X, field[44].At.Y+off.Y, side, side)
		one.Rank = 1000
		var want []int64
		for _, l := range field {
			if !overlapOf(l, one) {
				want = append(want, l.Id)
			}
		}
		checkPlace(t, "one in the field", append(slices.Clone(field), one), nil, append(want, 1000)...)
		one.Rank = 0
		checkPlace(t, "one below the field", append(slices.Clone(field), one), nil, manyIds(100)...)
	}
	// Long and thin ones, which have one place alone in common.
	for _, x := range []int64{-impl.MaxCoord, -side, -1, 0, 1, side - 1, side, impl.MaxCoord - side} {
		for _, y := range []int64{0, 1, 50000, 99999} {
			for _, step := range []int64{0, 1, 50000, 99999} {
				level, upright := room(1, x, 7, side, 1), room(2, x+step, 7-y, 1, side)
				checkPlace(t, "a cross", []impl.Label{level, upright}, nil, 1)
				checkSpaced(t, "a cross", []impl.Label{level, upright}, []int64{1, 2}, false)
			}
			checkPlace(t, "beside it", []impl.Label{room(1, x, 7, side, 1), room(2, x+side, 7-y, 1, side)}, nil, 1, 2)
			checkPlace(t, "below it", []impl.Label{room(1, x, 7, side, 1), room(2, x, 7-side, 1, side)}, nil, 1, 2)
		}
	}
}

// checkPlacePromised asks what is promised of every answer, whatever was shown before.
func checkPlacePromised(t *testing.T, ls []impl.Label, before []int64, shown []int64) {
	t.Helper()
	if !slices.IsSorted(shown) || len(slices.Compact(slices.Clone(shown))) != len(shown) {
		t.Error("not ascending:", shown)
	}
	with := map[int64]impl.Label{}
	for _, l := range ls {
		with[l.Id] = l
	}
	for i, id := range shown {
		if with[id].Id != id {
			t.Error("there is none such:", id)
		}
		for _, other := range shown[:i] {
			if overlapOf(with[id], with[other]) {
				t.Error("overlap:", with[id], with[other])
			}
		}
	}
	for _, l := range ls {
		gives := slices.ContainsFunc(shown, func(id int64) bool {
			return overlapOf(l, with[id]) && countsOf(with[id], before) >= countsOf(l, before)
		})
		if !gives && !slices.Contains(shown, l.Id) {
			t.Error("gives way to none:", l)
		}
	}
}

func TestPlaceAgainstTheWords(t *testing.T) {
	tell := numbers(99)
	shown, hidden, differs := 0, 0, 0
	for range 12000 {
		ls := someCrowd(tell)
		before := someBefore(tell, ls)
		want := placeOf(ls, before)
		checkPlace(t, "by chance", ls, before, want...)
		got := impl.Place(ls, before)
		checkPlacePromised(t, ls, before, got)
		checkSpaced(t, "what is shown", ls, got, true)
		// Nothing has moved, so the same stays.
		checkPlace(t, "again", ls, got, got...)
		shown += len(got)
		hidden += len(ls) - len(got)
		differs += count(!slices.Equal(got, placeOf(ls, nil)))
		if t.Failed() {
			t.FailNow()
		}
	}
	if shown < 10000 || hidden < 10000 || differs < 500 {
		t.Error("too few of a kind:", shown, hidden, differs)
	}
}

func TestManyLabelsAgainstTheWords(t *testing.T) {
	tell := numbers(100)
	for i := range 20 {
		ls := crowd(tell, impl.MaxLabels, at(0, 0), []int64{60, 1000000, 9000000, 30000}[i%4], []int64{20, 100000, 100000, 5}[i%4])
		before := placeOf(ls, nil)
		if i%2 == 0 {
			before = someBefore(tell, ls)
		}
		checkPlace(t, "many", ls, before, placeOf(ls, before)...)
		checkPlacePromised(t, ls, before, impl.Place(ls, before))
	}
}

func TestWeight(t *testing.T) {
	ls := []impl.Label{ranked(1, 0, 10), ranked(2, 5, 20), ranked(3, 12, 5), ranked(4, 30, 0), ranked(50, 90, 1000)}
	checkWeight(t, "no Ids", ls, nil, 0)
	checkWeight(t, "no Ids", ls, []int64{}, 0)
	checkWeight(t, "one", ls, []int64{2}, 20)
	checkWeight(t, "several", ls, []int64{3, 1}, 15)
	checkWeight(t, "all", ls, []int64{1, 2, 3, 4, 50}, 1035)
	checkWeight(t, "a rank of 0", ls, []int64{4}, 0)
	checkWeight(t, "not there", ls, []int64{7, 0, -1, math.MaxInt64, math.MinInt64, 5}, 0)
	checkWeight(t, "not there, and there", ls, []int64{7, 3, 9}, 5)
	checkWeight(t, "twice", ls, []int64{2, 4, 2}, 20)
	checkWeight(t, "thrice", ls, []int64{2, 2, 1, 2}, 30)
	checkWeight(t, "no labels", nil, []int64{1, 2}, 0)
	checkWeight(t, "many Ids", ls, manyIds(1<<20), 1035)
	full := make([]impl.Label, impl.MaxLabels)
	for i := range full {
		full[i] = ranked(int64(i+1), 0, 1000)
	}
	checkWeight(t, "MaxLabels", full, manyIds(500), 500000)
	checkWeight(t, "one more", append(full, ranked(501, 0, 1)), manyIds(500), 0)
	for _, bad := range badLabels() {
		checkWeight(t, "one that can't be", append(slices.Clone(ls), bad), []int64{1, 2}, 0)
		checkWeight(t, "one that can't be, ahead", append([]impl.Label{bad}, ls...), []int64{1, 2, bad.Id}, 0)
	}
	checkWeight(t, "one Id", append(slices.Clone(ls), ranked(1, 900, 7)), []int64{2}, 0)
}

func TestSpaced(t *testing.T) {
	ls := []impl.Label{ranked(1, 0, 10), ranked(2, 5, 20), ranked(3, 12, 5), ranked(4, 30, 0)}
	checkSpaced(t, "no Ids", ls, nil, true)
	checkSpaced(t, "no Ids", ls, []int64{}, true)
	checkSpaced(t, "no labels", nil, nil, true)
	checkSpaced(t, "no labels", nil, []int64{1}, true)
	for id := range int64(6) {
		checkSpaced(t, "one", ls, []int64{id}, true)
		checkSpaced(t, "one twice", ls, []int64{id, id}, true)
	}
	checkSpaced(t, "two that overlap", ls, []int64{1, 2}, false)
	checkSpaced(t, "two that overlap", ls, []int64{2, 1}, false)
	checkSpaced(t, "two that overlap, twice", ls, []int64{1, 2, 1, 2}, false)
	checkSpaced(t, "two that do not", ls, []int64{1, 3}, true)
	checkSpaced(t, "three that do not", ls, []int64{4, 1, 3}, true)
	checkSpaced(t, "two of four", ls, []int64{4, 3, 1, 2}, false)
	checkSpaced(t, "one of them is not there", ls, []int64{1, 7, 3}, true)
	checkSpaced(t, "those that are there overlap", ls, []int64{7, 1, 8, 2, 9}, false)
	checkSpaced(t, "many Ids", ls, manyIds(1<<20), false)
	checkSpaced(t, "touching", manyLabels(9), manyIds(9), true)
	checkSpaced(t, "MaxLabels", manyLabels(500), manyIds(500), true)
	checkSpaced(t, "one more", manyLabels(501), manyIds(501), false)
	checkSpaced(t, "one more, no Ids", manyLabels(501), nil, false)
	for _, bad := range badLabels() {
		checkSpaced(t, "one that can't be", append(slices.Clone(ls), bad), nil, false)
		checkSpaced(t, "one that can't be", append([]impl.Label{bad}, ls...), []int64{1}, false)
	}
	checkSpaced(t, "one Id", append(slices.Clone(ls), ranked(1, 900, 7)), nil, false)
}

func TestWeightAndSpacedAgainstTheWords(t *testing.T) {
	tell := numbers(101)
	both := map[bool]int{}
	for range 12000 {
		ls := someCrowd(tell)
		ids := pick(tell, someBefore(tell, ls), nil, impl.Place(ls, nil), append(someBefore(tell, ls), someBefore(tell, ls)...))
		if len(ids) > 0 && tell.Intn(2) == 0 {
			ids = ids[:1+tell.Intn(len(ids))]
		}
		checkWeight(t, "by chance", ls, ids, weightOf(ls, ids))
		want := spacedOf(ls, ids)
		both[want]++
		checkSpaced(t, "by chance", ls, ids, want)
		if t.Failed() {
			t.FailNow()
		}
	}
	if both[true] < 1000 || both[false] < 1000 {
		t.Error("too few of a kind:", both)
	}
}

func TestSteady(t *testing.T) {
	ls := []impl.Label{ranked(1, 0, 10), ranked(2, 5, 20), ranked(3, 12, 5), ranked(4, 30, 0)}
	first, later := []int64{2, 4}, []int64{1, 3, 4}
	checkSteady(t, "no day", nil)
	checkSteady(t, "no day", [][]impl.Label{})
	checkSteady(t, "one", [][]impl.Label{ls}, first)
	checkSteady(t, "one without labels", [][]impl.Label{nil}, nil)
	checkSteady(t, "the same again", [][]impl.Label{ls, ls, ls}, first, first, first)
	checkSteady(t, "one came", [][]impl.Label{ls[:1], ls, ls}, []int64{1}, later, later)
	checkSteady(t, "one went", [][]impl.Label{ls[:1], ls, ls[1:], ls}, []int64{1}, later, []int64{3, 4}, later)
	checkSteady(t, "of the day ahead alone", [][]impl.Label{ls[:1], nil, ls}, []int64{1}, nil, first)
	// A day that can't be shows nothing, and nothing is kept by way of it.
	checkSteady(t, "a day that can't be", [][]impl.Label{ls[:1], {{}}, ls}, []int64{1}, nil, first)
	checkSteady(t, "a day that can't be, first", [][]impl.Label{{{}}, ls}, nil, first)
	checkSteady(t, "a day that can't be, last", [][]impl.Label{ls, {ranked(1, 0, 1), ranked(1, 0, 1)}}, first, nil)
	checkSteady(t, "a day with too many", [][]impl.Label{ls[:1], manyLabels(501), ls}, []int64{1}, nil, first)
	checkSteady(t, "MaxLabels each day", [][]impl.Label{manyLabels(500), manyLabels(500)}, manyIds(500), manyIds(500))
	days, want := make([][]impl.Label, 31), make([][]int64, 31)
	for i := range days {
		days[i], want[i] = ls, later
	}
	days[0], want[0] = ls[:1], []int64{1}
	checkSteady(t, "MaxDays", days[:impl.MaxDays], want[:30]...)
	checkSteady(t, "one more", days)
	checkSteady(t, "far more", make([][]impl.Label, 1<<20))
}

// A rank that grows little by little wins only when it is more than 50 above.
func TestWhatIsShownDoesNotFlicker(t *testing.T) {
	var days [][]impl.Label
	for day := range int64(impl.MaxDays) {
		days = append(days, []impl.Label{ranked(1, 0, 100), ranked(2, 5, 80+4*day)})
	}
	for day, shown := range impl.Steady(days) {
		want := int64(1)
		if 80+4*day > 150 {
			want = 2
		}
		checkIds(t, "day", shown, want)
	}
	// Once it is shown, it stays when it falls again.
	slices.Reverse(days)
	for day, shown := range impl.Steady(days) {
		want := int64(2)
		if 80+4*(29-day) < 50 {
			want = 1
		}
		checkIds(t, "day back", shown, want)
	}
}

func TestSteadyAgainstTheWords(t *testing.T) {
	tell := numbers(102)
	kept := 0
	for range 1500 {
		ls := someCrowd(tell)
		days := [][]impl.Label{}
		for range tell.Intn(8) {
			days = append(days, slices.Clone(ls))
			switch tell.Intn(4) {
			case 0:
				ls = someCrowd(tell)
			case 1:
				for i := range ls {
					ls[i].Rank = min(max(ls[i].Rank+within(tell, 60), 0), 1000)
				}
			case 2:
				if len(ls) > 0 {
					ls = slices.Delete(slices.Clone(ls), 0, 1)
				}
			}
		}
		if len(days) > 0 && tell.Intn(5) == 0 {
			days[tell.Intn(len(days))] = []impl.Label{badLabels()[0]}
		}
		checkSteady(t, "by chance", days, steadyOf(days)...)
		got := impl.Steady(days)
		for i := 1; i < len(days); i++ {
			if slices.Equal(days[i], days[i-1]) {
				kept++
				checkIds(t, "a day like the one ahead", got[i], got[i-1]...)
			}
		}
		if t.Failed() {
			t.FailNow()
		}
	}
	if kept < 500 {
		t.Error("too few days were like the one ahead:", kept)
	}
}
