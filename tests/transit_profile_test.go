package tests

import (
	"slices"
	"testing"

	"loop.example/g00024/impl"
)

// Promise 15, of Profile: it says when to leave.

// everySecond is a Slot for each from first to last, which takes so long.
func everySecond(first int64, last int64, takes int64) []impl.Slot {
	var slots []impl.Slot
	for s := first; s <= last; s++ {
		slots = append(slots, slot(s, s+takes))
	}
	return slots
}

func TestProfile(t *testing.T) {
	l := commute()
	checkProfile(t, "by two ways", l, 0, 3, 0, 30, 0, slot(10, 40), slot(20, 55))
	checkProfile(t, "up to the first", l, 0, 3, 0, 10, 0, slot(10, 40))
	checkProfile(t, "from the second on", l, 0, 3, 20, 30, 0, slot(20, 55))
	checkProfile(t, "ahead of the first", l, 0, 3, 0, 9, 0, slot(9, 40))
	checkProfile(t, "between both", l, 0, 3, 11, 19, 0, slot(19, 55))
	checkProfile(t, "behind both", l, 0, 3, 21, 1000, 0)
	checkProfile(t, "nothing leads there", l, 3, 0, 0, 1000, 0)
	// On foot each second is a Slot, but those at which a ride that leaves later is there as early.
	checkProfile(t, "on foot and by ride", l, 0, 2, 0, 12, 0, slot(10, 25), slot(11, 41), slot(12, 42))
	checkProfile(t, "on foot, then by ride", l, 1, 3, 15, 100, 0, slot(25, 40), slot(45, 55))
	checkProfile(t, "on another day", service(2, onDays(2, hops(0, 5, 1, 6))), 0, 1, 0, 10, 0)
	checkProfile(t, "on its day", service(2, onDays(2, hops(0, 5, 1, 6))), 0, 1, 0, 10, 1, slot(5, 6))
}

func TestProfileOfOneSecond(t *testing.T) {
	l := commute()
	for start := range int64(25) {
		var want []impl.Slot
		if start <= 10 {
			want = []impl.Slot{slot(start, 40)}
		} else if start <= 20 {
			want = []impl.Slot{slot(start, 55)}
		}
		checkProfile(t, "first the same as last", l, 0, 3, start, start, 0, want...)
		checkProfile(t, "first one above last", l, 0, 3, start+1, start, 0)
		checkProfile(t, "first far above last", l, 0, 3, start+9000, start, 0)
	}
	checkProfile(t, "first one above last, where one is there", l, 0, 0, 1, 0, 0)
	checkProfile(t, "first the same as last, at 0", l, 0, 0, 0, 0, 0, slot(0, 0))
}

func TestProfileOfAWindow(t *testing.T) {
	l := withWalks(service(3, hops(0, 7199, 1, 7200), hops(0, 7200, 2, 7201)), byFoot(0, 1, 9))
	for _, first := range []int64{0, 1, 100, 992800} {
		for _, seconds := range []int64{1, 2, 7199, 7200} {
			checkProfile(t, "where one is there", l, 0, 0, first, first+seconds-1, 0, everySecond(first, first+seconds-1, 0)...)
		}
		for _, seconds := range []int64{7201, 7202, 1000000} {
			checkProfile(t, "too many seconds", l, 0, 0, first, first+seconds-1, 0)
		}
	}
	checkProfile(t, "just so many seconds", l, 0, 1, 0, 7199, 0, append(everySecond(0, 7190, 9), slot(7199, 7200))...)
	checkProfile(t, "a second more", l, 0, 1, 0, 7200, 0)
	checkProfile(t, "as many, a second later", l, 0, 1, 1, 7200, 0, append(everySecond(1, 7190, 9), slot(7199, 7200), slot(7200, 7209))...)
	checkProfile(t, "nothing but the last second", l, 0, 2, 1, 7200, 0, slot(7200, 7201))
	checkProfile(t, "all days long", l, 0, 1, 0, 1000000, 0)
}

func TestProfileAtTheEndOfTime(t *testing.T) {
	l := withWalks(service(2, hops(0, 1000000, 1, 1000000), hops(0, 0, 1, 1)), byFoot(1, 0, 10000))
	checkProfile(t, "up to MaxTime", l, 0, 1, 999990, 1000000, 0, slot(1000000, 1000000))
	checkProfile(t, "on foot at MaxTime", l, 1, 0, 999999, 1000000, 0, slot(999999, 1009999), slot(1000000, 1010000))
	checkProfile(t, "from 0 on", l, 0, 1, 0, 5, 0, slot(0, 1), slot(5, 1000000))
	for _, n := range []int64{farNumbers()[0], -1, 1000001, farNumbers()[4]} {
		checkProfile(t, "no first", l, 0, 0, n, 5, 0)
		checkProfile(t, "no last", l, 0, 0, 0, n, 0)
		checkProfile(t, "no last, close by", l, 0, 0, 1000000, n, 0)
		checkProfile(t, "neither", l, 0, 0, n, n, 0)
		checkProfile(t, "neither, close by", l, 0, 0, n, -1, 0)
		checkProfile(t, "neither, from where nothing goes", l, 1, 1, n-1, n, 0)
	}
	checkProfile(t, "all that there is", l, 0, 0, farNumbers()[0], farNumbers()[4], 0)
	checkProfile(t, "turned round", l, 0, 0, farNumbers()[4], farNumbers()[0], 0)
}

// Of starts with the same arrival the last one is told.
func TestProfileLeavesAsLateAsMayBe(t *testing.T) {
	l := service(3, hops(0, 10, 2, 30), hops(0, 20, 2, 30), hops(0, 25, 2, 40), hops(0, 27, 2, 39), hops(0, 40, 1, 41), hops(1, 41, 2, 60))
	checkProfile(t, "the same arrival and an earlier one", l, 0, 2, 0, 50, 0, slot(20, 30), slot(27, 39), slot(40, 60))
	checkProfile(t, "without the second", l, 0, 2, 0, 19, 0, slot(19, 30))
	checkProfile(t, "without the fourth", l, 0, 2, 0, 26, 0, slot(20, 30), slot(26, 39))
	l.Trips[3] = hops(0, 27, 2, 40)
	checkProfile(t, "the same arrival", l, 0, 2, 0, 30, 0, slot(20, 30), slot(27, 40), slot(30, 60))
	checkProfile(t, "the same arrival, without the later", l, 0, 2, 0, 26, 0, slot(20, 30), slot(26, 40))
	foot := withWalks(service(2, hops(0, 20, 1, 30)), byFoot(0, 1, 10))
	checkProfile(t, "the Walk is there as early", foot, 0, 1, 18, 23, 0, slot(18, 28), slot(19, 29), slot(20, 30), slot(21, 31), slot(22, 32), slot(23, 33))
	foot.Walks[0].Time = 13
	checkProfile(t, "the Walk is there later", foot, 0, 1, 15, 23, 0, slot(15, 28), slot(16, 29), slot(20, 30), slot(21, 34), slot(22, 35), slot(23, 36))
}

// The arrival is the least with at most four rides: with five one would be earlier.
func TestProfileOfMaxRides(t *testing.T) {
	var trips []impl.Trip
	for i := range int64(5) {
		trips = append(trips, hops(i, 10*i+9, i+1, 10*i+10))
	}
	l := service(6, trips...)
	checkProfile(t, "four rides", l, 0, 4, 0, 20, 0, slot(9, 40))
	checkProfile(t, "five rides", l, 0, 5, 0, 20, 0)
	l.Trips = append(l.Trips, hops(0, 3, 5, 70), hops(1, 30, 5, 60))
	checkProfile(t, "fewer rides", l, 0, 5, 0, 20, 0, slot(9, 60))
	for i := range l.Trips {
		slices.Reverse(l.Trips[:i+1])
		checkProfile(t, "fewer rides, in another order", l, 0, 5, 0, 20, 0, slot(9, 60))
	}
}

// What is later for one trip alone changes when to leave.
func TestProfileWhenSomethingIsLate(t *testing.T) {
	l := commute()
	checkProfile(t, "as it is", l, 0, 3, 0, 30, 0, slot(10, 40), slot(20, 55))
	checkProfile(t, "the change is just reached", impl.Late(l, 0, 1, 5), 0, 3, 0, 30, 0, slot(10, 40), slot(20, 55))
	checkProfile(t, "the change is missed, but not on foot", impl.Late(l, 0, 1, 6), 0, 3, 0, 30, 0, slot(0, 40), slot(20, 55))
	checkProfile(t, "the change is missed", impl.Late(l, 0, 1, 6), 0, 3, 1, 30, 0, slot(20, 55))
	checkProfile(t, "both are late", impl.Late(impl.Late(l, 0, 0, 6), 1, 0, 6), 0, 3, 0, 30, 0, slot(16, 46), slot(20, 55))
}
