package tests

import (
	"math"
	"math/rand"
	"slices"
	"testing"

	"loop.example/g00024/impl"
)

// room is a label of little rank: for questions about where it is.
func room(id int64, x int64, y int64, width int64, height int64) impl.Label {
	return impl.Label{Id: id, At: at(x, y), Width: width, Height: height, Rank: 1}
}

// ranked is a label 10 wide and 5 high, so far to the east.
func ranked(id int64, x int64, rank int64) impl.Label {
	return impl.Label{Id: id, At: at(x, 0), Width: 10, Height: 5, Rank: rank}
}

// manyLabels are that many, none of which overlaps another.
func manyLabels(count int) []impl.Label {
	var ls []impl.Label
	for i := range int64(count) {
		ls = append(ls, ranked(i+1, 10*i, i%7))
	}
	return ls
}

func manyIds(count int) []int64 {
	var ids []int64
	for i := range int64(count) {
		ids = append(ids, i+1)
	}
	return ids
}

// badLabels has each field one beyond its least and greatest, and as far as there is.
func badLabels() []impl.Label {
	good := ranked(7, 3, 9)
	var all []impl.Label
	put := func(change func(l *impl.Label)) {
		l := good
		change(&l)
		all = append(all, l)
	}
	for _, n := range []int64{math.MinInt64, -1, 0, math.MaxInt64} {
		put(func(l *impl.Label) { l.Id = n })
		put(func(l *impl.Label) { l.Width = n })
		put(func(l *impl.Label) { l.Height = n })
		if n != 0 {
			put(func(l *impl.Label) { l.Rank = n })
		}
	}
	put(func(l *impl.Label) { l.Id = 1000000001 })
	put(func(l *impl.Label) { l.Width = 100001 })
	put(func(l *impl.Label) { l.Height = 100001 })
	put(func(l *impl.Label) { l.Rank = 1001 })
	for _, p := range outside() {
		put(func(l *impl.Label) { l.At = p })
	}
	return append(all, impl.Label{})
}

// edgeLabels has each field at its least and at its greatest.
func edgeLabels() []impl.Label {
	const m = impl.MaxCoord
	return []impl.Label{
		{Id: 1, At: at(-m, -m), Width: 1, Height: 1}, {Id: 1000000000, At: at(m, m), Width: 100000, Height: 100000, Rank: 1000},
		{Id: 2, At: at(m, -m), Width: 100000, Height: 1, Rank: 1}, {Id: 999999999, At: at(-m, m), Width: 1, Height: 100000, Rank: 999}, {Id: 3, At: at(0, 0), Width: 2, Height: 99999},
	}
}

func checkLabels(t *testing.T, name string, ls []impl.Label, want bool) {
	t.Helper()
	if got := impl.LabelsOk(ls); got != want {
		t.Error(name, short(ls), got)
	}
}

// checkOverlap asks from both sides.
func checkOverlap(t *testing.T, name string, a impl.Label, b impl.Label, want bool) {
	t.Helper()
	if impl.Overlap(a, b) != want || impl.Overlap(b, a) != want {
		t.Error(name, a, b, !want)
	}
}

// checkPlace asks the same of the list turned round: its order has no part in it.
func checkPlace(t *testing.T, name string, ls []impl.Label, before []int64, want ...int64) {
	t.Helper()
	if got := impl.Place(ls, before); !slices.Equal(got, want) {
		t.Error(name, short(ls), short(before), "gives", short(got), "and not", short(want))
	}
	back, beforeBack := slices.Clone(ls), slices.Clone(before)
	slices.Reverse(back)
	slices.Reverse(beforeBack)
	if got := impl.Place(back, beforeBack); !slices.Equal(got, want) {
		t.Error(name, "turned round", short(ls), short(before), "gives", short(got), "and not", short(want))
	}
}

func checkWeight(t *testing.T, name string, ls []impl.Label, ids []int64, want int64) {
	t.Helper()
	if got := impl.Weight(ls, ids); got != want {
		t.Error(name, short(ls), short(ids), "gives", got, "and not", want)
	}
}

func checkSpaced(t *testing.T, name string, ls []impl.Label, ids []int64, want bool) {
	t.Helper()
	if got := impl.Spaced(ls, ids); got != want {
		t.Error(name, short(ls), short(ids), "gives", got)
	}
}

func sameIds(a [][]int64, b [][]int64) bool {
	return slices.EqualFunc(a, b, func(a []int64, b []int64) bool { return slices.Equal(a, b) })
}

func checkSteady(t *testing.T, name string, days [][]impl.Label, want ...[]int64) {
	t.Helper()
	if got := impl.Steady(days); !sameIds(got, want) {
		t.Error(name, "gives", short(got), "and not", short(want))
	}
}

// crowd are so many labels that can be, on so small a plane that they overlap; side is how wide and high they are at the most.
func crowd(r *rand.Rand, count int, middle impl.Point, most int64, side int64) []impl.Label {
	ls := make([]impl.Label, count)
	for i, id := range r.Perm(2*count + 1)[:count] {
		p := somewhere(r, most)
		p = at(min(max(p.X+middle.X, -impl.MaxCoord), impl.MaxCoord), min(max(p.Y+middle.Y, -impl.MaxCoord), impl.MaxCoord))
		ls[i] = impl.Label{Id: int64(id) + 1, At: p, Width: 1 + r.Int63n(side), Height: 1 + r.Int63n(side), Rank: pick(r, r.Int63n(3), 50*r.Int63n(4), r.Int63n(1001))}
	}
	return ls
}

// someCrowd is of each measure: some small, some over several squares of the greatest width, some at the plane's edge.
func someCrowd(r *rand.Rand) []impl.Label {
	const m = impl.MaxCoord
	middle := pick(r, at(0, 0), at(0, 0), at(m, m), at(-m, -m), at(m, -m), at(100000, -300000), at(-m+100000, 50000))
	switch r.Intn(3) {
	case 0:
		return crowd(r, r.Intn(12), middle, 20, 12)
	case 1:
		return crowd(r, r.Intn(12), middle, 200000, 100000)
	}
	return crowd(r, r.Intn(40), middle, 400000, 100000)
}

func someBefore(r *rand.Rand, ls []impl.Label) []int64 {
	var before []int64
	for _, l := range ls {
		if r.Intn(3) == 0 {
			before = append(before, l.Id)
		}
	}
	for range r.Intn(3) {
		before = append(before, pick(r, -1, 0, r.Int63n(90), 1+r.Int63n(9)))
	}
	return before
}
