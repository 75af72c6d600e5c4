package tests

import (
	"cmp"
	"slices"

	"loop.example/g00024/impl"
)

// Chapter 14 reckoned once more from its words: every order of the Tasks is cut into rounds in every way, and each plan that comes of it
// is held against the best one so far.

func fleetCanBe(g impl.Graph, f impl.Fleet) bool {
	ok := graphCanBe(g) && numbered(f.Depot, len(g.Places)) && f.Start >= 0 && f.Start <= 1000000
	ok = ok && slices.Contains([]int64{1, 2, 3, 4}, f.Vehicles) && f.Room >= 0 && f.Room <= 10000 && len(f.Tasks) < 7
	for _, k := range f.Tasks {
		ok = ok && numbered(k.Spot, len(g.Places)) && numbered(k.Load, 1001) && numbered(k.Stay, 100001)
		ok = ok && numbered(k.Open, 1000001) && numbered(k.Close, 1000001) && k.Open <= k.Close
	}
	return ok
}

// board is a fleet that can be, with the times from each of its places to all others.
type board struct {
	impl.Fleet
	times map[int64][]int64
}

// timesGrown has the times from a place by the paths that reckon chapter 10.
func timesGrown(g impl.Graph, s int64) []int64 {
	var times []int64
	for _, p := range grownTo(g, s) {
		times = append(times, timeIn(p))
	}
	return times
}

func boardOf(g impl.Graph, f impl.Fleet, timesFrom func(g impl.Graph, s int64) []int64) (board, bool) {
	if !fleetCanBe(g, f) {
		return board{}, false
	}
	b := board{f, map[int64][]int64{f.Depot: timesFrom(g, f.Depot)}}
	for _, k := range f.Tasks {
		if b.times[k.Spot] == nil {
			b.times[k.Spot] = timesFrom(g, k.Spot)
		}
	}
	return b, true
}

// isRound asks for what a round is, not whether it can be.
func (b board) isRound(round []int64) bool {
	for i, n := range round {
		if !numbered(n, len(b.Tasks)) || slices.Contains(round[i+1:], n) {
			return false
		}
	}
	return len(round) > 0
}

func (b board) roundTime(round []int64) int64 {
	if !b.isRound(round) {
		return -1
	}
	loads, driven, clock, place := int64(0), int64(0), b.Start, b.Depot
	drive := func(to int64) bool {
		time := b.times[place][to]
		driven, clock, place = driven+time, clock+time, to
		return time >= 0
	}
	for _, n := range round {
		k := b.Tasks[n]
		loads += k.Load
		if !drive(k.Spot) || clock > k.Close {
			return -1
		}
		if clock < k.Open {
			clock = k.Open
		}
		clock += k.Stay
	}
	if !drive(b.Depot) || loads > b.Room {
		return -1
	}
	return driven
}

func (b board) planTime(plan [][]int64) int64 {
	if int64(len(plan)) > b.Vehicles {
		return -1
	}
	times := make([]int, len(b.Tasks))
	sum := int64(0)
	for i, round := range plan {
		time := b.roundTime(round)
		if time < 0 || i > 0 && round[0] <= plan[i-1][0] {
			return -1
		}
		sum += time
		for _, n := range round {
			times[n]++
		}
	}
	if slices.ContainsFunc(times, func(n int) bool { return n != 1 }) {
		return -1
	}
	return sum
}

// inLine has the rounds one behind the other, with a -1 behind each.
func inLine(plan [][]int64) []int64 {
	var line []int64
	for _, round := range plan {
		line = append(append(line, round...), -1)
	}
	return line
}

// worsePlan is above 0 when the second plan is the better one, by the stated order.
func worsePlan(a impl.Plan, b impl.Plan) int {
	return cmp.Or(cmp.Compare(a.Time, b.Time), cmp.Compare(len(a.Rounds), len(b.Rounds)), slices.Compare(inLine(a.Rounds), inLine(b.Rounds)))
}

// eachSplit shows every way to put so many Tasks into rounds that are ascending by their first numbers, however many these are.
func eachSplit(tasks int, show func(plan [][]int64)) {
	for _, order := range orders(tasks) {
		for cuts := range 1 << max(0, tasks-1) {
			var plan [][]int64
			for i, n := range order {
				if i == 0 || cuts>>(i-1)&1 == 1 {
					plan = append(plan, nil)
				}
				plan[len(plan)-1] = append(plan[len(plan)-1], int64(n))
			}
			if slices.IsSortedFunc(plan, func(a []int64, b []int64) int { return cmp.Compare(a[0], b[0]) }) {
				show(plan)
			}
		}
	}
}

// best is of all plans of which planTime says a time.
func (b board) best(planTime func(plan [][]int64) int64) impl.Plan {
	var best impl.Plan
	eachSplit(len(b.Tasks), func(plan [][]int64) {
		p := impl.Plan{Found: true, Rounds: plan, Time: planTime(plan)}
		if p.Time >= 0 && (!best.Found || worsePlan(best, p) > 0) {
			best = p
		}
	})
	return best
}

func roundTimeOf(g impl.Graph, f impl.Fleet, round []int64) int64 {
	b, ok := boardOf(g, f, timesGrown)
	if !ok {
		return -1
	}
	return b.roundTime(round)
}

func planTimeOf(g impl.Graph, f impl.Fleet, plan [][]int64) int64 {
	b, ok := boardOf(g, f, timesGrown)
	if !ok {
		return -1
	}
	return b.planTime(plan)
}

func bestPlanOf(g impl.Graph, f impl.Fleet) impl.Plan {
	b, ok := boardOf(g, f, timesGrown)
	if !ok {
		return impl.Plan{}
	}
	return b.best(b.planTime)
}
