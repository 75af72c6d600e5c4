package tests

import (
	"math/rand"
	"slices"
	"strconv"
	"strings"
	"testing"

	"loop.example/g00024/impl"
)

func halt(stop int64, arrive int64, depart int64) impl.Call {
	return impl.Call{Stop: stop, Arrive: arrive, Depart: depart}
}

// trip runs every day.
func trip(calls ...impl.Call) impl.Trip { return impl.Trip{Line: "1", Days: 127, Calls: calls} }

// hops is a trip that calls at each of these stops at the time that stands behind it, and stays nowhere.
func hops(stopsAndTimes ...int64) impl.Trip {
	t := trip()
	for i := 0; i < len(stopsAndTimes); i += 2 {
		t.Calls = append(t.Calls, halt(stopsAndTimes[i], stopsAndTimes[i+1], stopsAndTimes[i+1]))
	}
	return t
}

func onDays(days int64, t impl.Trip) impl.Trip {
	t.Days = days
	return t
}

func byFoot(from int64, to int64, time int64) impl.Walk {
	return impl.Walk{From: from, To: to, Time: time}
}

// stopNames are so many.
func stopNames(count int) []string {
	var names []string
	for i := range count {
		names = append(names, "stop "+strconv.Itoa(i))
	}
	return names
}

// service has so many stops.
func service(stops int, trips ...impl.Trip) impl.Lines {
	return impl.Lines{Stops: stopNames(stops), Trips: trips}
}

func withWalks(l impl.Lines, walks ...impl.Walk) impl.Lines {
	l.Walks = walks
	return l
}

// withCalls is the same with other calls of that trip.
func withCalls(l impl.Lines, trip int, calls ...impl.Call) impl.Lines {
	l = same(l)
	l.Trips[trip].Calls = calls
	return l
}

// commute goes from stop 0 to stop 3 by one ride, by two with a Walk between, or on foot and by one ride.
func commute() impl.Lines {
	return withWalks(service(4, trip(halt(0, 10, 10), halt(1, 20, 21), halt(3, 60, 60)), hops(2, 30, 3, 40), hops(2, 50, 3, 55)), byFoot(1, 2, 5), byFoot(0, 2, 30))
}

// badLine is a timetable that can't be, and why.
type badLine struct {
	name  string
	lines impl.Lines
}

// badLines are each alone spoiled by one thing, of a timetable in which one comes from stop 0 to stop 3.
func badLines() []badLine {
	var all []badLine
	put := func(name string, spoil func(l *impl.Lines)) {
		l := commute()
		spoil(&l)
		all = append(all, badLine{name, l})
	}
	for _, text := range badTexts() {
		for stop := range 4 {
			put("a stop's name", func(l *impl.Lines) { l.Stops[stop] = text })
		}
		for trip := range 3 {
			put("a Line", func(l *impl.Lines) { l.Trips[trip].Line = text })
		}
	}
	for _, n := range append(farNumbers(), 4) {
		for call := range 3 {
			put("a call at no stop", func(l *impl.Lines) { l.Trips[0].Calls[call].Stop = n })
		}
		put("the last call of all at no stop", func(l *impl.Lines) { l.Trips[2].Calls[1].Stop = n })
		for walk := range 2 {
			put("a Walk from no stop", func(l *impl.Lines) { l.Walks[walk].From = n })
			put("a Walk to no stop", func(l *impl.Lines) { l.Walks[walk].To = n })
		}
	}
	for _, n := range append(farNumbers(), 0, 128, 129, 255) {
		put("Days", func(l *impl.Lines) { l.Trips[0].Days = n })
		put("the last trip's Days", func(l *impl.Lines) { l.Trips[2].Days = n })
	}
	for _, n := range []int64{farNumbers()[0], -1, 10001, farNumbers()[4]} {
		put("a Walk's Time", func(l *impl.Lines) { l.Walks[0].Time = n })
		put("the last Walk's Time", func(l *impl.Lines) { l.Walks[1].Time = n })
	}
	put("a Walk to where it begins", func(l *impl.Lines) { l.Walks[0].To = 1 })
	put("the last Walk to where it begins", func(l *impl.Lines) { l.Walks[1].From = 2 })
	for name, calls := range badCalls() {
		for trip := range 3 {
			put(name, func(l *impl.Lines) { l.Trips[trip].Calls = calls })
		}
	}
	put("a stop too many", func(l *impl.Lines) { l.Stops = stopNames(201) })
	put("a trip too many", func(l *impl.Lines) { l.Trips = slices.Repeat(l.Trips[:1], 501) })
	put("a Walk too many", func(l *impl.Lines) { l.Walks = slices.Repeat(l.Walks[:1], 301) })
	put("no stops", func(l *impl.Lines) { l.Stops = nil })
	return all
}

func badTexts() []string {
	texts := []string{"", strings.Repeat("x", 101), strings.Repeat("x", 1<<20)}
	for _, b := range []byte{0, 9, 10, 31, 127, 128, 255} {
		texts = append(texts, string([]byte{b}), "a"+string([]byte{b})+"b", "a"+string([]byte{b}), string([]byte{b})+"b")
	}
	return texts
}

// badCalls are of no trip, though each of its stops is one of four.
func badCalls() map[string][]impl.Call {
	return map[string][]impl.Call{
		"no calls":                       nil,
		"one call":                       {halt(0, 10, 10)},
		"a call too many":                shuttle(0, 1, 0, 1, 41).Calls,
		"an Arrive above its Depart":     {halt(0, 11, 10), halt(3, 60, 60)},
		"a last Arrive above its Depart": {halt(0, 10, 10), halt(3, 61, 60)},
		"an Arrive above by much":        {halt(0, 1000000, 0), halt(3, 60, 60)},
		"an Arrive below 0":              {halt(0, -1, 10), halt(3, 60, 60)},
		"an Arrive far below 0":          {halt(0, farNumbers()[0], 10), halt(3, 60, 60)},
		"Arrive and Depart below 0":      {halt(0, -1, -1), halt(3, 60, 60)},
		"a Depart beyond":                {halt(0, 10, 10), halt(3, 60, 1000001)},
		"both beyond":                    {halt(0, 10, 10), halt(3, 1000001, 1000001)},
		"all beyond":                     {halt(0, 1000001, 1000001), halt(3, 1000001, 1000001)},
		"a Depart as far as there is":    {halt(0, 10, 10), halt(3, 60, farNumbers()[4])},
		"a Depart behind the next":       {halt(0, 10, 61), halt(3, 60, 60)},
		"a middle Depart behind":         {halt(0, 10, 10), halt(1, 20, 61), halt(3, 60, 60)},
		"an Arrive ahead of the first":   {halt(0, 10, 10), halt(1, 9, 20), halt(3, 60, 60)},
		"twice at one stop":              {halt(0, 10, 10), halt(0, 20, 20), halt(3, 60, 60)},
		"twice at the last stop":         {halt(0, 10, 10), halt(3, 60, 60), halt(3, 70, 70)},
		"only twice at one stop":         {halt(0, 10, 10), halt(0, 10, 10)},
	}
}

// shuttle goes to and fro between two stops, with so many calls, from the time first on, each so much later than the one ahead.
func shuttle(a int64, b int64, first int64, step int64, calls int) impl.Trip {
	t := trip()
	for i := range int64(calls) {
		t.Calls = append(t.Calls, halt(a, first+i*step, first+i*step))
		a, b = b, a
	}
	return t
}

// seconds are what Earliest tells of one number of rides.
func seconds(times ...int64) []int64 { return times }

func rode(trip int64, on int64, off int64) impl.Leg {
	return impl.Leg{Trip: trip, On: on, Off: off, Walk: -1}
}

func rodeAndWalked(trip int64, on int64, off int64, walk int64) impl.Leg {
	return impl.Leg{Trip: trip, On: on, Off: off, Walk: walk}
}

func walked(walk int64) impl.Leg { return impl.Leg{Trip: -1, Walk: walk} }

func journey(rides int64, arrive int64, legs ...impl.Leg) impl.Journey {
	return impl.Journey{Rides: rides, Arrive: arrive, Legs: legs}
}

func slot(depart int64, arrive int64) impl.Slot { return impl.Slot{Depart: depart, Arrive: arrive} }

func sameJourney(a impl.Journey, b impl.Journey) bool {
	return a.Rides == b.Rides && a.Arrive == b.Arrive && slices.Equal(a.Legs, b.Legs)
}

func sameTrip(a impl.Trip, b impl.Trip) bool {
	return a.Line == b.Line && a.Days == b.Days && slices.Equal(a.Calls, b.Calls)
}

func sameLines(a impl.Lines, b impl.Lines) bool {
	return slices.Equal(a.Stops, b.Stops) && slices.EqualFunc(a.Trips, b.Trips, sameTrip) && slices.Equal(a.Walks, b.Walks)
}

func checkLinesOk(t *testing.T, name string, l impl.Lines, want bool) {
	t.Helper()
	if got := impl.LinesOk(l); got != want {
		t.Error(name, short(l), "gives", got)
	}
}

func checkEarliest(t *testing.T, name string, l impl.Lines, from int64, start int64, day int64, want ...[]int64) {
	t.Helper()
	checkTable(t, name, impl.Earliest(l, from, start, day), want...)
}

func checkJourneys(t *testing.T, name string, l impl.Lines, from int64, to int64, start int64, day int64, want ...impl.Journey) {
	t.Helper()
	if got := impl.Journeys(l, from, to, start, day); !slices.EqualFunc(got, want, sameJourney) {
		t.Error(name, "gives", short(got), "and not", short(want))
	}
}

func checkProfile(t *testing.T, name string, l impl.Lines, from int64, to int64, first int64, last int64, day int64, want ...impl.Slot) {
	t.Helper()
	if got := impl.Profile(l, from, to, first, last, day); !slices.Equal(got, want) {
		t.Error(name, "gives", short(got), "and not", short(want))
	}
}

func checkLate(t *testing.T, name string, l impl.Lines, trip int64, call int64, by int64, want impl.Lines) {
	t.Helper()
	if got := impl.Late(l, trip, call, by); !sameLines(got, want) {
		t.Error(name, "gives", short(got), "and not", short(want))
	}
}

// checkNoJourneys wants none at that start, nor in a window that has it alone.
func checkNoJourneys(t *testing.T, name string, l impl.Lines, from int64, to int64, start int64, day int64) {
	t.Helper()
	checkJourneys(t, name, l, from, to, start, day)
	checkProfile(t, name, l, from, to, start, start, day)
}

// someTrip can be: it has so few times that many things are as early, and some are there and gone at once.
func someTrip(r *rand.Rand, stops int64, calls int, first int64, step int64) impl.Trip {
	t := onDays(pick(r, int64(127), 127, 1, 3, 65, 1+r.Int63n(127)), trip())
	stop, time := r.Int63n(stops), r.Int63n(first+1)
	for range calls {
		arrive := time + r.Int63n(step+1)
		time = arrive + r.Int63n(3)/2*r.Int63n(step+1)
		t.Calls = append(t.Calls, halt(stop, arrive, time))
		stop = (stop + 1 + r.Int63n(stops-1)) % stops
	}
	return t
}

// someWalk can be, and takes at most that long.
func someWalk(r *rand.Rand, stops int64, most int64) impl.Walk {
	from := r.Int63n(stops)
	return byFoot(from, (from+1+r.Int63n(stops-1))%stops, r.Int63n(most+1))
}

// someHop goes from some stop to one that is numbered a little higher, the later the higher, so that one comes far by several of them alone.
func someHop(r *rand.Rand, stops int64, step int64) impl.Trip {
	from := r.Int63n(stops - 1)
	time := from*step + r.Int63n(2*step+1)
	t := onDays(pick(r, int64(127), 127, 127, 1+r.Int63n(127)), hops(from, time))
	for to := from + 1; to < stops && (to == from+1 || r.Intn(4) == 0); to++ {
		time += r.Int63n(step + 1)
		t.Calls = append(t.Calls, halt(to, time, time+r.Int63n(3)/2))
		time += r.Int63n(2) + 1
	}
	return t
}

// someService can be; its trips begin at first at the latest, and have at most so many calls, or are hops.
func someService(r *rand.Rand, stops int, trips int, calls int, walks int, first int64) impl.Lines {
	l := service(stops)
	step, hopping := pick(r, int64(1), 2, 3, 9), r.Intn(2) == 0
	for range trips {
		if hopping && r.Intn(8) > 0 {
			l.Trips = append(l.Trips, someHop(r, int64(stops), step))
		} else {
			l.Trips = append(l.Trips, someTrip(r, int64(stops), 2+r.Intn(calls-1), first, step))
		}
	}
	most := pick(r, int64(0), 2, 2, 6, 20)
	for range walks {
		l.Walks = append(l.Walks, someWalk(r, int64(stops), most))
	}
	return l
}

// someQuestion is of where and when one leaves such a timetable's stops, and where to: often from the first to the last, and soon.
func someQuestion(r *rand.Rand, l impl.Lines, latest int64) (from int64, to int64, start int64, day int64) {
	stops := int64(len(l.Stops))
	from, to, start, day = r.Int63n(stops), r.Int63n(stops), r.Int63n(latest+1), r.Int63n(7)
	if r.Intn(2) == 0 {
		from, to = r.Int63n(2), stops-1-r.Int63n(2)
	}
	return from, to, start * r.Int63n(2), day
}
