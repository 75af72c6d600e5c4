package tests

import (
	"math/rand"
	"slices"
	"testing"

	"loop.example/g00024/impl"
)

// Promise 15, of timetables as great as may be, and of windows as long: they are answered, and in a time that a test can wait for.

// checkGreatLines asks whether a timetable is as great as may be.
func checkGreatLines(t *testing.T, name string, l impl.Lines) {
	t.Helper()
	checkLinesOk(t, name, l, true)
	short := slices.ContainsFunc(l.Trips, func(t impl.Trip) bool { return len(t.Calls) != 40 })
	if len(l.Stops) != 200 || len(l.Trips) != 500 || len(l.Walks) != 300 || short {
		t.Fatal(name, len(l.Stops), "stops,", len(l.Trips), "trips and", len(l.Walks), "Walks")
	}
}

// bigCity has trips that come from everywhere and go everywhere, within a few hours.
func bigCity(r *rand.Rand) impl.Lines {
	l := service(200)
	for range 500 {
		t := someTrip(r, 200, 40, 9000, 300)
		t.Days = 127 - 1<<r.Intn(7)
		l.Trips = append(l.Trips, t)
	}
	for range 300 {
		l.Walks = append(l.Walks, someWalk(r, 200, 2000))
	}
	return l
}

// railways go along all stops, 40 of them at a time, now and then.
func railways(r *rand.Rand) impl.Lines {
	l := service(200)
	for i := range int64(500) {
		first := 39 * (i % 5)
		t, time := trip(), 1000*(i%5)+r.Int63n(4000)
		for stop := first; stop < first+40; stop++ {
			t.Calls = append(t.Calls, halt(stop, time, time+r.Int63n(5)))
			time += 5 + r.Int63n(30)
		}
		l.Trips = append(l.Trips, t)
	}
	for i := range int64(300) {
		l.Walks = append(l.Walks, byFoot(i%200, (i+1+i/200)%200, r.Int63n(600)))
	}
	return l
}

// busyStops has two stops between which trips go to and fro in every second, and 198 to which one walks from the first of them.
func busyStops() impl.Lines {
	l := service(200)
	for i := range int64(500) {
		l.Trips = append(l.Trips, shuttle(i&1, 1-i&1, 14*(499-i), 1+i%3, 40))
	}
	for i := range int64(300) {
		l.Walks = append(l.Walks, byFoot(0, 1+i%199, 300-i))
	}
	return l
}

// atOnce has all trips at one second.
func atOnce(r *rand.Rand) impl.Lines {
	l := service(200)
	for range 500 {
		l.Trips = append(l.Trips, someTrip(r, 200, 40, 0, 0))
	}
	for range 300 {
		l.Walks = append(l.Walks, someWalk(r, 200, 0))
	}
	return l
}

// checkGreatJourneys holds the times to all stops, and the journeys to some of them, against the reckoning.
func checkGreatJourneys(t *testing.T, name string, l impl.Lines, from int64, start int64, day int64, to ...int64) int {
	t.Helper()
	b, lifts := byRounds(l, from, start, day), liftsOn(l, day)
	checkEarliest(t, name, l, from, start, day, b.told()...)
	told := 0
	for _, stop := range to {
		js := earlier(b, stop, func(k int) []impl.Leg { return legsBack(l, b, lifts, k, stop) })
		checkJourneys(t, name, l, from, stop, start, day, js...)
		checkRidden(t, l, from, stop, start, day, js)
		told += len(js)
	}
	return told
}

// checkGreatProfile asks for as many seconds as may be, and at some of them whether one arrives as with the next Slot.
func checkGreatProfile(t *testing.T, name string, l impl.Lines, from int64, to int64, first int64, day int64) []impl.Slot {
	t.Helper()
	last := first + 7199
	slots := impl.Profile(l, from, to, first, last, day)
	asked := []int64{first, last}
	for i, s := range slots {
		if i > 0 && (s.Depart <= slots[i-1].Depart || s.Arrive <= slots[i-1].Arrive) {
			t.Fatal(name, "not ascending", slots[i-1], s)
		}
		if i%(1+len(slots)/30) == 0 {
			asked = append(asked, max(first, s.Depart-1), s.Depart, min(last, s.Depart+1))
		}
	}
	for _, start := range asked {
		next := slices.IndexFunc(slots, func(s impl.Slot) bool { return s.Depart >= start })
		want := int64(far)
		if next >= 0 {
			want = slots[next].Arrive
		}
		if got := arrivalOf(l, from, to, start, day); got != want {
			t.Fatal(name, "leaving at", start, "one arrives at", got, "and not", want)
		}
	}
	return slots
}

func TestGreatCities(t *testing.T) {
	tell := numbers(187)
	l := bigCity(tell)
	checkGreatLines(t, "a city", l)
	told, slots := 0, 0
	for range 6 {
		from, day := tell.Int63n(200), tell.Int63n(7)
		told += checkGreatJourneys(t, "a city", l, from, tell.Int63n(9000), day, tell.Int63n(200), tell.Int63n(200), tell.Int63n(200), from)
		slots += len(checkGreatProfile(t, "a city", l, from, tell.Int63n(200), tell.Int63n(9000), day))
	}
	if told < 30 || slots < 80 {
		t.Error("too few are told:", told, slots)
	}
	late := impl.Late(l, 499, 0, 5000)
	checkLate(t, "a city", l, 499, 0, 5000, lateOf(l, 499, 0, 5000))
	checkGreatJourneys(t, "a city, late", late, l.Trips[499].Calls[0].Stop, 0, 1, 7, 77, 177)
}

func TestGreatRailways(t *testing.T) {
	tell := numbers(188)
	l := railways(tell)
	checkGreatLines(t, "railways", l)
	if told := checkGreatJourneys(t, "railways", l, 0, 0, 3, 0, 39, 40, 78, 79, 117, 156, 157, 158, 195, 199); told < 8 {
		t.Error("too few are told:", told)
	}
	if slots := checkGreatProfile(t, "railways", l, 0, 156, 0, 3); len(slots) < 10 {
		t.Error("too few Slots:", slots)
	}
	checkGreatProfile(t, "railways", l, 20, 117, 500, 0)
}

func TestGreatTimetablesOfFewStops(t *testing.T) {
	l := busyStops()
	checkGreatLines(t, "two stops", l)
	checkGreatJourneys(t, "two stops", l, 0, 0, 2, 1, 100, 199)
	checkGreatJourneys(t, "two stops, from the other one", l, 1, 3000, 2, 0, 100, 199)
	for _, to := range []int64{0, 1, 2, 199} {
		if slots := checkGreatProfile(t, "two stops", l, 0, to, 0, 6); len(slots) < 3500 {
			t.Error("too few Slots:", len(slots))
		}
		checkGreatProfile(t, "two stops, from the other one", l, 1, to, 900, 6)
	}
}

func TestGreatTimetablesAtOnce(t *testing.T) {
	l := atOnce(numbers(189))
	checkGreatLines(t, "all at once", l)
	checkGreatJourneys(t, "all at once", l, 5, 0, 0, 0, 5, 199)
	checkGreatJourneys(t, "all at once, too late", l, 5, 1, 0, 0, 5, 199)
	if slots := checkGreatProfile(t, "all at once", l, 5, 77, 0, 0); len(slots) != 1 || slots[0] != slot(0, 0) {
		t.Error("Slots", slots)
	}
	checkProfile(t, "to where one is", l, 5, 5, 992801, 1000000, 0, everySecond(992801, 1000000, 0)...)
}
