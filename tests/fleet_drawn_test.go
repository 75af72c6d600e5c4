package tests

import (
	"slices"
	"testing"

	"loop.example/g00024/impl"
)

// Promise 14, on small fleets, drawn: no plan takes less than the one that is told, nor as long with fewer rounds or lesser numbers.

// sumOfRounds is what RoundTime says of all of them together; -1 when one can't be.
func sumOfRounds(g impl.Graph, f impl.Fleet, plan [][]int64) int64 {
	sum := int64(0)
	for _, round := range plan {
		time := impl.RoundTime(g, f, round)
		if time < 0 {
			return -1
		}
		sum += time
	}
	return sum
}

// checkLeastPlan holds a plan against all others, by what PlanTime and RoundTime say of them.
func checkLeastPlan(t *testing.T, g impl.Graph, f impl.Fleet, b board) impl.Plan {
	t.Helper()
	told := impl.BestPlan(g, f)
	best := b.best(func(plan [][]int64) int64 {
		time := impl.PlanTime(g, f, plan)
		if want := b.planTime(plan); time != want {
			t.Error(plan, "takes", time, "and not", want)
		}
		if sum := sumOfRounds(g, f, plan); time != sum && int64(len(plan)) <= f.Vehicles {
			t.Error(plan, "takes", time, "and its rounds", sum)
		}
		if int64(len(plan)) > f.Vehicles && time != -1 {
			t.Error(plan, "takes", time, "but there are", f.Vehicles, "vehicles")
		}
		return time
	})
	// Where PlanTime says -1 of all of them, this is the zero value.
	checkPlan(t, "drawn", told, best)
	if told.Found {
		checkPlanTime(t, "drawn", g, f, told.Time, told.Rounds...)
	}
	return told
}

// planKinds counts what was drawn.
type planKinds struct {
	found, none, one, several, byRounds, byNumbers, more, unsorted, full int
}

// note looks at what the plans of a fleet are like.
func (k *planKinds) note(b board, told impl.Plan) {
	if !told.Found {
		k.none++
		return
	}
	k.found++
	k.one += count(len(told.Rounds) == 1)
	k.several += count(len(told.Rounds) > 1)
	k.full += count(int64(len(told.Rounds)) == b.Vehicles && b.Vehicles > 1)
	k.unsorted += count(slices.ContainsFunc(told.Rounds, func(round []int64) bool { return !slices.IsSorted(round) }))
	rounds, numbers, fewer := false, false, false
	eachSplit(len(b.Tasks), func(plan [][]int64) {
		time := b.planTime(plan)
		rounds = rounds || time == told.Time && len(plan) > len(told.Rounds)
		numbers = numbers || time == told.Time && len(plan) == len(told.Rounds) && slices.Compare(inLine(told.Rounds), inLine(plan)) < 0
		fewer = fewer || time > told.Time && len(plan) < len(told.Rounds)
	})
	k.byRounds += count(rounds)
	k.byNumbers += count(numbers)
	k.more += count(fewer)
}

func (k *planKinds) check(t *testing.T, least planKinds) {
	t.Helper()
	if k.found < least.found || k.none < least.none || k.one < least.one || k.several < least.several || k.byRounds < least.byRounds ||
		k.byNumbers < least.byNumbers || k.more < least.more || k.unsorted < least.unsorted || k.full < least.full {
		t.Errorf("too few of a kind: %+v", *k)
	}
}

// checkSomeFleets draws so many with at least so many Tasks, and at most so many.
func checkSomeFleets(t *testing.T, seed int64, fleets int, least int, most int) planKinds {
	t.Helper()
	tell := numbers(seed)
	var k planKinds
	for range fleets {
		places := 2 + tell.Intn(5)
		g := someTown(tell, places)
		f := someFleet(tell, int64(places), least+tell.Intn(most-least+1))
		b, ok := boardOf(g, f, timesGrown)
		if !ok {
			t.Fatal("no board of", g, f)
		}
		told := checkLeastPlan(t, g, f, b)
		k.note(b, told)
		if t.Failed() {
			t.Fatal(g, f)
		}
	}
	return k
}

func TestPlansOfSmallFleets(t *testing.T) {
	k := checkSomeFleets(t, 161, 4000, 0, 3)
	k.check(t, planKinds{found: 2500, none: 400, one: 1500, several: 150, byRounds: 500, byNumbers: 900, more: 40, unsorted: 200, full: 50})
}

func TestPlansOfGreaterFleets(t *testing.T) {
	k := checkSomeFleets(t, 162, 150, 4, 5)
	k.check(t, planKinds{found: 60, none: 30, one: 30, several: 12, byRounds: 30, byNumbers: 50, more: 3, unsorted: 30, full: 3})
}

func TestPlansOfFullFleets(t *testing.T) {
	k := checkSomeFleets(t, 163, 8, 6, 6)
	k.check(t, planKinds{found: 3, none: 1, several: 1})
}

// Fleets of five and six Tasks, which only the reckoning goes through.
func TestPlansOfFleetsReckoned(t *testing.T) {
	tell := numbers(164)
	var k planKinds
	for range 250 {
		places := 2 + tell.Intn(5)
		g := someTown(tell, places)
		f := someFleet(tell, int64(places), 4+tell.Intn(3))
		f.Vehicles = max(f.Vehicles, 1+tell.Int63n(4))
		b, ok := boardOf(g, f, timesGrown)
		if !ok {
			t.Fatal("no board of", g, f)
		}
		told := impl.BestPlan(g, f)
		checkPlan(t, "drawn", told, b.best(b.planTime))
		k.note(b, told)
		if t.Failed() {
			t.Fatal(g, f)
		}
	}
	k.check(t, planKinds{found: 100, none: 60, one: 50, several: 30, byRounds: 60, byNumbers: 80, more: 8, unsorted: 60, full: 10})
}

// Lists of all kinds, few of which are rounds and plans: RoundTime and PlanTime say of them what the words say.
func TestListsThatMayBePlans(t *testing.T) {
	tell := numbers(165)
	rounds, plans := map[bool]int{}, map[bool]int{}
	for range 1500 {
		places := 2 + tell.Intn(4)
		g, tasks := someTown(tell, places), tell.Intn(4)
		f := someFleet(tell, int64(places), tasks)
		b, _ := boardOf(g, f, timesGrown)
		for range 20 {
			round := someNumbers(tell.Intn, tell.Intn(tasks+2), tasks)
			time := b.roundTime(round)
			checkRound(t, "drawn", g, f, time, round...)
			rounds[time >= 0]++
			var plan [][]int64
			for range tell.Intn(4) {
				plan = append(plan, someNumbers(tell.Intn, tell.Intn(3), tasks))
			}
			time = b.planTime(plan)
			checkPlanTime(t, "drawn", g, f, time, plan...)
			plans[time >= 0]++
		}
		if t.Failed() {
			t.Fatal(g, f)
		}
	}
	if rounds[true] < 2000 || rounds[false] < 2000 || plans[true] < 1000 || plans[false] < 2000 {
		t.Error("too few of a kind:", rounds, plans)
	}
}

// someNumbers are so many, which mostly stand in a list of that length.
func someNumbers(draw func(n int) int, count int, length int) []int64 {
	var list []int64
	for range count {
		list = append(list, int64(draw(max(length, 1)+draw(12)/11))-int64(draw(30)/29))
	}
	return list
}
