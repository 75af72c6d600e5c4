package tests

import (
	"slices"
	"testing"

	"loop.example/g00024/impl"
)

// Promise 15, of Earliest: where one can be at the least, for each number of rides.

func TestEarliest(t *testing.T) {
	l := commute()
	checkEarliest(t, "from the first stop", l, 0, 5, 0,
		seconds(5, -1, 35, -1), seconds(-1, 20, 25, 55), seconds(-1, -1, -1, 40), seconds(-1, -1, -1, -1), seconds(-1, -1, -1, -1))
	checkEarliest(t, "too late for the first trip", l, 0, 11, 0,
		seconds(11, -1, 41, -1), seconds(-1, -1, -1, 55), seconds(-1, -1, -1, -1), seconds(-1, -1, -1, -1), seconds(-1, -1, -1, -1))
	checkEarliest(t, "from the middle", l, 1, 25, 0,
		seconds(-1, 25, 30, -1), seconds(-1, -1, -1, 40), seconds(-1, -1, -1, -1), seconds(-1, -1, -1, -1), seconds(-1, -1, -1, -1))
	checkEarliest(t, "where nothing goes on", l, 3, 0, 0,
		seconds(-1, -1, -1, 0), seconds(-1, -1, -1, -1), seconds(-1, -1, -1, -1), seconds(-1, -1, -1, -1), seconds(-1, -1, -1, -1))
	checkEarliest(t, "stops alone", service(2), 1, 9, 3, seconds(-1, 9), seconds(-1, -1), seconds(-1, -1), seconds(-1, -1), seconds(-1, -1))
}

func TestEarliestOfWhatCantBe(t *testing.T) {
	l := commute()
	for _, from := range append(farNumbers(), 4) {
		checkEarliest(t, "no stop", l, from, 0, 0)
	}
	for _, start := range []int64{farNumbers()[0], -1, 1000001, farNumbers()[4]} {
		checkEarliest(t, "no start", l, 0, start, 0)
	}
	for _, day := range append(farNumbers(), 7, 64) {
		checkEarliest(t, "no day", l, 0, 0, day)
	}
	checkEarliest(t, "nothing at all", impl.Lines{}, 0, 0, 0)
	for _, bad := range badLines() {
		for from := range int64(4) {
			checkEarliest(t, bad.name, bad.lines, from, 0, 0)
		}
	}
}

func TestEarliestFromEachStop(t *testing.T) {
	for from := range int64(4) {
		told := impl.Earliest(commute(), from, 3, 0)
		if len(told) != 5 || len(told[0]) != 4 || told[0][from] != 3 {
			t.Error("from", from, told)
		}
	}
}

func TestEarliestAtTheEndOfTime(t *testing.T) {
	l := withWalks(service(3, hops(0, 1000000, 1, 1000000)), byFoot(0, 2, 10000), byFoot(1, 2, 3))
	nothing := seconds(-1, -1, -1)
	checkEarliest(t, "at MaxTime", l, 0, 1000000, 0, seconds(1000000, -1, 1010000), seconds(-1, 1000000, 1000003), nothing, nothing, nothing)
	checkEarliest(t, "one earlier", l, 0, 999999, 0, seconds(999999, -1, 1009999), seconds(-1, 1000000, 1000003), nothing, nothing, nothing)
	l.Trips[0] = hops(0, 0, 1, 0)
	checkEarliest(t, "at 0", l, 0, 0, 0, seconds(0, -1, 10000), seconds(-1, 0, 3), nothing, nothing, nothing)
	checkEarliest(t, "one later", l, 0, 1, 0, seconds(1, -1, 10001), nothing, nothing, nothing, nothing)
}

func TestEarliestOnItsDay(t *testing.T) {
	for runs := range int64(7) {
		l := service(2, onDays(1<<runs, hops(0, 5, 1, 10)), onDays(127-1<<runs, hops(0, 5, 1, 20)))
		for day := range int64(7) {
			want := int64(20)
			if day == runs {
				want = 10
			}
			checkEarliest(t, "the trip of the day", l, 0, 5, day, seconds(5, -1), seconds(-1, want), seconds(-1, -1), seconds(-1, -1), seconds(-1, -1))
			checkEarliest(t, "too late for it", l, 0, 6, day, seconds(6, -1), seconds(-1, -1), seconds(-1, -1), seconds(-1, -1), seconds(-1, -1))
		}
	}
	// A change is to a trip of the same day.
	l := service(3, onDays(3, hops(0, 1, 1, 2)), onDays(2, hops(1, 3, 2, 4)), onDays(1, hops(1, 5, 2, 6)))
	checkEarliest(t, "on Monday", l, 0, 0, 0, seconds(0, -1, -1), seconds(-1, 2, -1), seconds(-1, -1, 6), seconds(-1, -1, -1), seconds(-1, -1, -1))
	checkEarliest(t, "on Tuesday", l, 0, 0, 1, seconds(0, -1, -1), seconds(-1, 2, -1), seconds(-1, -1, 4), seconds(-1, -1, -1), seconds(-1, -1, -1))
	checkEarliest(t, "on Wednesday", l, 0, 0, 2, seconds(0, -1, -1), seconds(-1, -1, -1), seconds(-1, -1, -1), seconds(-1, -1, -1), seconds(-1, -1, -1))
}

// One is in time at the Depart itself, and the Arrive of the call at which one boards does not count.
func TestEarliestIsInTime(t *testing.T) {
	nothing := seconds(-1, -1, -1)
	l := service(3, trip(halt(0, 10, 15), halt(1, 20, 25), halt(2, 30, 35)))
	for start := int64(8); start < 28; start++ {
		ride := seconds(-1, 20, 30)
		if start > 15 {
			ride = nothing
		}
		second := seconds(-1, -1, 30)
		if start > 15 {
			second = nothing
		}
		checkEarliest(t, "from the first call", l, 0, start, 0, seconds(start, -1, -1), ride, second, nothing, nothing)
		ride = seconds(-1, -1, 30)
		if start > 25 {
			ride = nothing
		}
		checkEarliest(t, "from the middle one", l, 1, start, 0, seconds(-1, start, -1), ride, nothing, nothing, nothing)
		checkEarliest(t, "the last one can't be boarded", l, 2, start, 0, seconds(-1, -1, start), nothing, nothing, nothing, nothing)
	}
	for depart := int64(18); depart < 24; depart++ {
		change := service(3, hops(0, 10, 1, 20), hops(1, depart, 2, 40))
		want := seconds(-1, -1, 40)
		if depart < 20 {
			want = nothing
		}
		checkEarliest(t, "a change", change, 0, 10, 0, seconds(10, -1, -1), seconds(-1, 20, -1), want, nothing, nothing)
		foot := withWalks(service(4, hops(0, 10, 1, 16), hops(2, depart, 3, 40)), byFoot(1, 2, 4))
		want = seconds(-1, -1, -1, 40)
		if depart < 20 {
			want = seconds(-1, -1, -1, -1)
		}
		none := seconds(-1, -1, -1, -1)
		checkEarliest(t, "a change by a Walk", foot, 0, 10, 0, seconds(10, -1, -1, -1), seconds(-1, 16, 20, -1), want, none, none)
		checkEarliest(t, "a Walk ahead of the first ride", foot, 1, 16, 0, seconds(-1, 16, 20, -1), want, none, none, none)
	}
}

func TestEarliestWhereATripComesTwice(t *testing.T) {
	nothing := seconds(-1, -1, -1)
	l := service(3, hops(0, 10, 1, 20, 0, 30, 1, 40, 2, 50))
	checkEarliest(t, "at its first call", l, 0, 10, 0, seconds(10, -1, -1), seconds(30, 20, 50), seconds(30, 40, 50), seconds(-1, 40, 50), seconds(-1, -1, 50))
	checkEarliest(t, "at its later call", l, 0, 11, 0, seconds(11, -1, -1), seconds(-1, 40, 50), seconds(-1, -1, 50), nothing, nothing)
	checkEarliest(t, "between", l, 1, 20, 0, seconds(-1, 20, -1), seconds(30, 40, 50), seconds(-1, 40, 50), seconds(-1, -1, 50), nothing)
	checkEarliest(t, "between, later", l, 1, 21, 0, seconds(-1, 21, -1), seconds(-1, -1, 50), nothing, nothing, nothing)
	// It may come again at the very same time: then one can board it at the call at which one has boarded it before.
	at := service(2, hops(0, 5, 1, 5, 0, 5))
	checkEarliest(t, "all at once", at, 0, 5, 0, seconds(5, -1), seconds(5, 5), seconds(5, 5), seconds(5, 5), seconds(5, 5))
	checkEarliest(t, "all at once, from the middle", at, 1, 5, 0, seconds(-1, 5), seconds(5, -1), seconds(5, 5), seconds(5, 5), seconds(5, 5))
	checkEarliest(t, "all at once, too late", at, 0, 6, 0, seconds(6, -1), seconds(-1, -1), seconds(-1, -1), seconds(-1, -1), seconds(-1, -1))
}

func TestEarliestByAWalk(t *testing.T) {
	none := seconds(-1, -1, -1, -1)
	l := withWalks(service(4), byFoot(0, 1, 7), byFoot(1, 2, 1), byFoot(2, 3, 0), byFoot(0, 1, 5), byFoot(0, 1, 6), byFoot(0, 3, 9))
	checkEarliest(t, "one from the start, not two", l, 0, 10, 0, seconds(10, 15, -1, 19), none, none, none, none)
	checkEarliest(t, "without time", l, 2, 10, 0, seconds(-1, -1, 10, 10), none, none, none, none)
	checkEarliest(t, "not against its direction", l, 3, 10, 0, seconds(-1, -1, -1, 10), none, none, none, none)
	ride := withWalks(service(5, hops(0, 10, 1, 20)), byFoot(1, 2, 3), byFoot(2, 3, 1), byFoot(1, 3, 9), byFoot(0, 1, 30), byFoot(3, 4, 0))
	checkEarliest(t, "one behind a ride, not two", ride, 0, 0, 0,
		seconds(0, 30, -1, -1, -1), seconds(-1, 20, 23, 29, -1), seconds(-1, -1, -1, -1, -1), seconds(-1, -1, -1, -1, -1), seconds(-1, -1, -1, -1, -1))
	// Where a Walk leads first, a ride that comes later still goes on by a Walk of its own, which begins where only the ride is.
	slow := withWalks(service(4, hops(0, 10, 2, 50)), byFoot(0, 1, 2), byFoot(1, 2, 1), byFoot(2, 3, 1))
	checkEarliest(t, "only behind the ride", slow, 0, 0, 0, seconds(0, 2, -1, -1), seconds(-1, -1, 50, 51), none, none, none)
	// By the Walk one is there earlier than by the ride, but does not walk on.
	both := withWalks(service(4, hops(0, 10, 1, 12, 2, 50)), byFoot(1, 2, 1), byFoot(2, 3, 1))
	checkEarliest(t, "by the ride and on", both, 0, 10, 0, seconds(10, -1, -1, -1), seconds(-1, 12, 13, 51), seconds(-1, -1, 50, 51), none, none)
	back := withWalks(service(2), byFoot(0, 1, 0), byFoot(1, 0, 0))
	checkEarliest(t, "there and not back", back, 0, 4, 0, seconds(4, 4), seconds(-1, -1), seconds(-1, -1), seconds(-1, -1), seconds(-1, -1))
}

// Each list is of just so many rides, also where fewer are as early or earlier.
func TestEarliestOfJustSoManyRides(t *testing.T) {
	l := service(3, hops(0, 10, 1, 20), hops(1, 20, 2, 30), hops(0, 10, 2, 30), hops(0, 10, 2, 25), hops(1, 40, 0, 50))
	checkEarliest(t, "fewer are earlier", l, 0, 10, 0,
		seconds(10, -1, -1), seconds(-1, 20, 25), seconds(50, -1, 30), seconds(-1, -1, -1), seconds(-1, -1, -1))
	same := service(2, hops(0, 1, 1, 1), hops(1, 1, 0, 1))
	checkEarliest(t, "all are as early", same, 0, 1, 0, seconds(1, -1), seconds(-1, 1), seconds(1, -1), seconds(-1, 1), seconds(1, -1))
	checkEarliest(t, "too late", same, 0, 2, 0, seconds(2, -1), seconds(-1, -1), seconds(-1, -1), seconds(-1, -1), seconds(-1, -1))
	// One may get off and board the same trip again, at that call or at a later one.
	one := service(5, hops(0, 1, 1, 2, 2, 3, 3, 4, 4, 5))
	checkEarliest(t, "off and on again", one, 0, 0, 0,
		seconds(0, -1, -1, -1, -1), seconds(-1, 2, 3, 4, 5), seconds(-1, -1, 3, 4, 5), seconds(-1, -1, -1, 4, 5), seconds(-1, -1, -1, -1, 5))
	// A Walk does not count as a ride.
	foot := withWalks(one, byFoot(0, 1, 1), byFoot(2, 3, 1))
	checkEarliest(t, "with Walks", foot, 0, 0, 0,
		seconds(0, 1, -1, -1, -1), seconds(-1, 2, 3, 4, 5), seconds(-1, -1, 3, 4, 5), seconds(-1, -1, -1, 4, 5), seconds(-1, -1, -1, -1, 5))
}

// With five rides one would be farther: they are more than may be.
func TestEarliestOfMaxRides(t *testing.T) {
	var trips []impl.Trip
	for i := range int64(6) {
		trips = append(trips, hops(i, 10*i, i+1, 10*i+10))
	}
	l := withWalks(service(8, trips...), byFoot(4, 6, 100), byFoot(5, 7, 1))
	want := slices.Repeat([][]int64{slices.Repeat([]int64{-1}, 8)}, 5)
	for k := range want {
		want[k] = slices.Clone(want[k])
		want[k][k] = int64(10 * k)
	}
	want[4][6] = 140
	checkEarliest(t, "one by one", l, 0, 0, 0, want...)
	slices.Reverse(l.Trips)
	checkEarliest(t, "one by one, the last trip first", l, 0, 0, 0, want...)
}

// An earlier ride to a stop that one has come to later counts, in whatever order the trips stand.
func TestEarliestWhateverTheOrder(t *testing.T) {
	trips := []impl.Trip{
		hops(0, 1, 1, 50, 4, 51), hops(0, 2, 2, 10), hops(2, 11, 1, 20), hops(1, 20, 3, 30, 4, 33), hops(1, 50, 3, 60), hops(0, 2, 3, 61), hops(1, 19, 3, 20, 4, 21), hops(2, 10, 1, 21),
	}
	for _, order := range orders(5) {
		l := withWalks(service(5), byFoot(1, 3, 9), byFoot(3, 1, 2))
		for _, n := range order {
			l.Trips = append(l.Trips, trips[n])
		}
		l.Trips = append(l.Trips, trips[5:]...)
		checkEarliest(t, "in some order", l, 0, 1, 0,
			seconds(1, -1, -1, -1, -1), seconds(-1, 50, 10, 59, 51), seconds(-1, 20, -1, 29, 51), seconds(-1, 32, -1, 30, 33), seconds(-1, 62, -1, 60, 33))
		if t.Failed() {
			t.Fatal(order)
		}
	}
}
