package tests

import (
	"slices"

	"loop.example/g00024/impl"
)

// Chapter 8 reckoned once more from its words: each label is held against every other.

func labelCanBe(l impl.Label) bool {
	return idCanBe(l.Id) && canBe(l.At) && l.Width >= 1 && l.Width <= 100000 && l.Height >= 1 && l.Height <= 100000 && l.Rank >= 0 && l.Rank <= 1000
}

func labelsCanBe(ls []impl.Label) bool {
	if len(ls) > 500 {
		return false
	}
	for i, l := range ls {
		if !labelCanBe(l) || slices.ContainsFunc(ls[:i], func(o impl.Label) bool { return o.Id == l.Id }) {
			return false
		}
	}
	return true
}

func overlapOf(a impl.Label, b impl.Label) bool {
	return labelCanBe(a) && labelCanBe(b) &&
		!apart(a.At.X, a.At.X+a.Width-1, b.At.X, b.At.X+b.Width-1) && !apart(a.At.Y, a.At.Y+a.Height-1, b.At.Y, b.At.Y+b.Height-1)
}

// roomOf are all places of a label, one by one.
func roomOf(l impl.Label) map[impl.Point]bool {
	all := map[impl.Point]bool{}
	for x := l.At.X; x < l.At.X+l.Width; x++ {
		for y := l.At.Y; y < l.At.Y+l.Height; y++ {
			all[at(x, y)] = true
		}
	}
	return all
}

func countsOf(l impl.Label, before []int64) int64 {
	if slices.Contains(before, l.Id) {
		return l.Rank + 50
	}
	return l.Rank
}

// placeOf takes, as often as there are labels, the one of those that are left that comes first.
func placeOf(ls []impl.Label, before []int64) []int64 {
	if !labelsCanBe(ls) || len(before) > 500 {
		return nil
	}
	left := slices.Clone(ls)
	var shown []impl.Label
	for len(left) > 0 {
		first := 0
		for i, l := range left {
			more := countsOf(l, before) - countsOf(left[first], before)
			if more > 0 || more == 0 && l.Id < left[first].Id {
				first = i
			}
		}
		l := left[first]
		left = slices.Delete(left, first, first+1)
		if !slices.ContainsFunc(shown, func(o impl.Label) bool { return overlapOf(l, o) }) {
			shown = append(shown, l)
		}
	}
	var ids []int64
	for _, l := range shown {
		ids = append(ids, l.Id)
	}
	slices.Sort(ids)
	return ids
}

func weightOf(ls []impl.Label, ids []int64) int64 {
	sum := int64(0)
	for _, l := range ls {
		if labelsCanBe(ls) && slices.Contains(ids, l.Id) {
			sum += l.Rank
		}
	}
	return sum
}

func spacedOf(ls []impl.Label, ids []int64) bool {
	ok := labelsCanBe(ls)
	for i, a := range ls {
		for _, b := range ls[:i] {
			if slices.Contains(ids, a.Id) && slices.Contains(ids, b.Id) && overlapOf(a, b) {
				ok = false
			}
		}
	}
	return ok
}

func steadyOf(days [][]impl.Label) [][]int64 {
	if len(days) > 30 {
		return nil
	}
	all := make([][]int64, len(days))
	for i, ls := range days {
		var ahead []int64
		if i > 0 {
			ahead = all[i-1]
		}
		all[i] = placeOf(ls, ahead)
	}
	return all
}
