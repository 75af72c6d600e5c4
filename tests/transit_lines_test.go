package tests

import (
	"slices"
	"strings"
	"testing"

	"loop.example/g00024/impl"
)

// Promise 15, of LinesOk and Late: what a timetable is, and what it is when something is late.

func TestLinesThatCanBe(t *testing.T) {
	checkLinesOk(t, "stops, trips and Walks", commute(), true)
	checkLinesOk(t, "nothing", impl.Lines{}, true)
	checkLinesOk(t, "empty lists", impl.Lines{Stops: []string{}, Trips: []impl.Trip{}, Walks: []impl.Walk{}}, true)
	checkLinesOk(t, "stops alone", service(3), true)
	checkLinesOk(t, "no Walks", service(2, hops(0, 1, 1, 2)), true)
	checkLinesOk(t, "no trips", withWalks(service(2), byFoot(0, 1, 1)), true)
	checkLinesOk(t, "a trip without stops", service(0, hops(0, 1, 1, 2)), false)
	checkLinesOk(t, "a Walk without stops", withWalks(service(0), byFoot(0, 1, 1)), false)
	twice := withWalks(service(2, hops(0, 1, 1, 2), hops(0, 1, 1, 2)), byFoot(0, 1, 1), byFoot(0, 1, 1), byFoot(1, 0, 1))
	checkLinesOk(t, "trips and Walks that are the same", twice, true)
	twice.Stops[1] = twice.Stops[0]
	checkLinesOk(t, "stops of the same name", twice, true)
	for _, bad := range badLines() {
		checkLinesOk(t, bad.name, bad.lines, false)
	}
}

// withText has that name of its last stop, or that Line of its last trip.
func withText(l impl.Lines, text string, ofTrip bool) impl.Lines {
	l = same(l)
	if ofTrip {
		l.Trips[len(l.Trips)-1].Line = text
	} else {
		l.Stops[len(l.Stops)-1] = text
	}
	return l
}

func TestNamesOfStopsAndLines(t *testing.T) {
	for _, ofTrip := range []bool{false, true} {
		for n := range 103 {
			checkLinesOk(t, "so long", withText(commute(), strings.Repeat("v", n), ofTrip), 1 <= n && n <= 100)
		}
		for b := range 256 {
			one := string([]byte{byte(b)})
			for _, text := range []string{one, one + "ab", "a" + one + "b", "ab" + one} {
				checkLinesOk(t, "a byte", withText(commute(), text, ofTrip), 32 <= b && b <= 126)
			}
		}
		checkLinesOk(t, "blanks", withText(commute(), "   ", ofTrip), true)
		checkLinesOk(t, "what is a letter elsewhere", withText(commute(), "Stra\u00dfe", ofTrip), false)
	}
}

func TestHowManyLinesHave(t *testing.T) {
	checkLinesOk(t, "as many stops as may be", service(200), true)
	checkLinesOk(t, "a stop too many", service(201), false)
	one := hops(0, 1, 1, 2)
	checkLinesOk(t, "as many trips as may be", service(2, slices.Repeat([]impl.Trip{one}, 500)...), true)
	checkLinesOk(t, "a trip too many", service(2, slices.Repeat([]impl.Trip{one}, 501)...), false)
	for calls := range 44 {
		checkLinesOk(t, "so many calls", service(2, one, shuttle(0, 1, 5, 3, calls)), 2 <= calls && calls <= 40)
		checkLinesOk(t, "so many calls at once", service(2, shuttle(0, 1, 5, 0, calls)), 2 <= calls && calls <= 40)
	}
	foot := []impl.Walk{byFoot(1, 0, 7)}
	checkLinesOk(t, "as many Walks as may be", withWalks(service(2, one), slices.Repeat(foot, 300)...), true)
	checkLinesOk(t, "a Walk too many", withWalks(service(2, one), slices.Repeat(foot, 301)...), false)
	full := withWalks(service(200, slices.Repeat([]impl.Trip{shuttle(198, 199, 0, 1, 40)}, 500)...), slices.Repeat([]impl.Walk{byFoot(199, 198, 10000)}, 300)...)
	checkLinesOk(t, "as much of all as may be", full, true)
}

func TestDaysOfTrips(t *testing.T) {
	for days := int64(-2); days < 260; days++ {
		checkLinesOk(t, "Days", service(2, onDays(days, hops(0, 1, 1, 2))), 1 <= days && days <= 127)
	}
}

func TestTimesOfCalls(t *testing.T) {
	for _, n := range []int64{0, 1, 5000, 999999, 1000000} {
		checkLinesOk(t, "all at once", service(2, hops(0, n, 1, n)), true)
		checkLinesOk(t, "Depart beyond the next", service(2, trip(halt(0, n, n+1), halt(1, n, n+1))), false)
		checkLinesOk(t, "Arrive as the Depart ahead", service(2, trip(halt(0, 0, n), halt(1, n, 1000000))), true)
		checkLinesOk(t, "Arrive one below the Depart ahead", service(2, trip(halt(0, 0, n), halt(1, n-1, 1000000))), false)
		checkLinesOk(t, "the last Depart one below Arrive", service(2, trip(halt(0, 0, 0), halt(1, n, n-1))), false)
		checkLinesOk(t, "one below Arrive", service(2, trip(halt(0, n, n-1), halt(1, 1000000, 1000000))), false)
	}
	checkLinesOk(t, "from the least to the greatest", service(2, trip(halt(0, 0, 0), halt(1, 1000000, 1000000))), true)
	checkLinesOk(t, "a last Depart one beyond", service(2, trip(halt(0, 0, 0), halt(1, 1000000, 1000001))), false)
	checkLinesOk(t, "a last Arrive one beyond", service(2, trip(halt(0, 0, 0), halt(1, 1000001, 1000001))), false)
	checkLinesOk(t, "a first Arrive one below", service(2, trip(halt(0, -1, 0), halt(1, 1000000, 1000000))), false)
	checkLinesOk(t, "a Depart ahead, but not the last one", service(3, hops(0, 10, 1, 30, 2, 20)), false)
}

func TestStopsOfCalls(t *testing.T) {
	for stop := int64(-2); stop < 6; stop++ {
		ok := 0 <= stop && stop < 4
		checkLinesOk(t, "the first call's stop", service(4, hops(stop, 1, (stop+1)&1, 2)), ok && stop != (stop+1)&1)
		checkLinesOk(t, "the last call's stop", service(4, hops((stop+1)&1, 1, stop, 2)), ok && stop != (stop+1)&1)
	}
	checkLinesOk(t, "two beside each other", service(3, hops(0, 1, 1, 2, 1, 3)), false)
	checkLinesOk(t, "two beside each other, first", service(3, hops(1, 1, 1, 2, 0, 3)), false)
	checkLinesOk(t, "two beside each other, at the first stop", service(3, hops(0, 1, 0, 2, 1, 3)), false)
	checkLinesOk(t, "again later", service(3, hops(0, 1, 1, 2, 0, 3)), true)
	checkLinesOk(t, "again and again", service(3, hops(0, 1, 1, 2, 0, 3, 2, 3, 0, 3, 1, 9)), true)
}

func TestWalksOfLines(t *testing.T) {
	for from := int64(-2); from < 6; from++ {
		for to := int64(-2); to < 6; to++ {
			ok := 0 <= from && from < 4 && 0 <= to && to < 4 && from != to
			checkLinesOk(t, "a Walk", withWalks(service(4), byFoot(from, to, 5)), ok)
			checkLinesOk(t, "a second Walk", withWalks(service(4), byFoot(0, 1, 5), byFoot(from, to, 5)), ok)
		}
	}
	for _, n := range []int64{-10000, -1, 0, 1, 9999, 10000, 10001, 1000000} {
		checkLinesOk(t, "its Time", withWalks(service(4), byFoot(0, 1, n)), 0 <= n && n <= 10000)
	}
}

func TestLate(t *testing.T) {
	l := commute()
	checkLate(t, "from the first call on", l, 0, 0, 7, withCalls(l, 0, halt(0, 17, 17), halt(1, 27, 28), halt(3, 67, 67)))
	checkLate(t, "from a middle one", l, 0, 1, 7, withCalls(l, 0, halt(0, 10, 10), halt(1, 27, 28), halt(3, 67, 67)))
	checkLate(t, "from the last one", l, 0, 2, 7, withCalls(l, 0, halt(0, 10, 10), halt(1, 20, 21), halt(3, 67, 67)))
	checkLate(t, "another trip", l, 1, 0, 1, withCalls(l, 1, halt(2, 31, 31), halt(3, 41, 41)))
	checkLate(t, "the last trip's last call", l, 2, 1, 100000, withCalls(l, 2, halt(2, 50, 50), halt(3, 100055, 100055)))
	checkLate(t, "by nothing", l, 0, 0, 0, l)
	checkLate(t, "by one", l, 0, 2, 1, withCalls(l, 0, halt(0, 10, 10), halt(1, 20, 21), halt(3, 61, 61)))
	other := onDays(65, trip(halt(1, 5, 6), halt(0, 6, 9)))
	other.Line = "~ 9"
	want := same(other)
	want.Calls[1] = halt(0, 8, 11)
	checkLate(t, "its Line and Days stay", service(2, other), 0, 1, 2, service(2, want))
	for trip := range int64(3) {
		for call := range int64(len(l.Trips[trip].Calls)) {
			for _, by := range []int64{0, 1, 99999, 100000} {
				checkLate(t, "each", l, trip, call, by, lateOf(l, trip, call, by))
			}
			for _, by := range []int64{farNumbers()[0], -100000, -1, 100001, farNumbers()[4]} {
				checkLate(t, "by what it can't be", l, trip, call, by, impl.Lines{})
			}
		}
	}
}

func TestLateOfWhatIsNot(t *testing.T) {
	l := commute()
	for _, n := range append(farNumbers(), 3, 4) {
		checkLate(t, "no trip", l, n, 0, 1, impl.Lines{})
		checkLate(t, "no trip, by nothing", l, n, 0, 0, impl.Lines{})
		checkLate(t, "no call", l, 0, n, 1, impl.Lines{})
		checkLate(t, "no call, by nothing", l, 0, n, 0, impl.Lines{})
	}
	checkLate(t, "a call that another trip has", l, 1, 2, 1, impl.Lines{})
	checkLate(t, "no trips", service(3), 0, 0, 0, impl.Lines{})
	checkLate(t, "nothing at all", impl.Lines{}, 0, 0, 0, impl.Lines{})
	for _, bad := range badLines() {
		for trip := range int64(3) {
			checkLate(t, bad.name, bad.lines, trip, 0, 1, impl.Lines{})
			checkLate(t, bad.name, bad.lines, trip, 1, 0, impl.Lines{})
		}
	}
}

func TestLateAtTheEndOfTime(t *testing.T) {
	last := service(2, trip(halt(0, 900000, 900000), halt(1, 999990, 1000000)))
	checkLate(t, "a Depart at MaxTime, by nothing", last, 0, 1, 0, last)
	checkLate(t, "a Depart one beyond", last, 0, 1, 1, impl.Lines{})
	checkLate(t, "a Depart one beyond, from the first call on", last, 0, 0, 1, impl.Lines{})
	early := service(2, trip(halt(0, 900000, 900000), halt(1, 900000, 900000)))
	checkLate(t, "just to MaxTime", early, 0, 0, 100000, service(2, hops(0, 1000000, 1, 1000000)))
	checkLate(t, "just to MaxTime, the last call", early, 0, 1, 100000, service(2, hops(0, 900000, 1, 1000000)))
	early.Trips[0].Calls[1] = halt(1, 900000, 900001)
	checkLate(t, "a Depart passes it", early, 0, 0, 100000, impl.Lines{})
	checkLate(t, "a Depart passes it, one less", early, 0, 0, 99999, service(2, trip(halt(0, 999999, 999999), halt(1, 999999, 1000000))))
	early.Trips[0].Calls[1] = halt(1, 900001, 900001)
	checkLate(t, "Arrive and Depart pass it", early, 0, 1, 100000, impl.Lines{})
	// What is late in one trip alone does not count for another.
	two := service(2, hops(0, 0, 1, 10), hops(0, 999990, 1, 1000000))
	checkLate(t, "the other one is at MaxTime", two, 0, 0, 5, service(2, hops(0, 5, 1, 15), two.Trips[1]))
	checkLate(t, "the one at MaxTime", two, 1, 0, 5, impl.Lines{})
}

// What is late by nothing is the same; what is late twice is late by both together.
func TestLateTwice(t *testing.T) {
	tell := numbers(181)
	for range 3000 {
		l := someService(tell, 2+tell.Intn(4), 1+tell.Intn(4), 5, tell.Intn(4), 20)
		trip := tell.Int63n(int64(len(l.Trips)))
		call := tell.Int63n(int64(len(l.Trips[trip].Calls)))
		checkLate(t, "by nothing", l, trip, call, 0, l)
		a, b := tell.Int63n(50000), tell.Int63n(50000)
		once := impl.Late(l, trip, call, a+b)
		checkLinesOk(t, "late", once, true)
		checkLate(t, "late", l, trip, call, a+b, lateOf(l, trip, call, a+b))
		checkLate(t, "twice", impl.Late(l, trip, call, a), trip, call, b, once)
		if t.Failed() {
			t.Fatal(l)
		}
	}
}
