package tests

import (
	"runtime"
	"slices"
	"sync"
	"testing"

	"loop.example/g00024/impl"
)

// Promise 19, of chapter 15: every function answers at every argument and none panics; answers are new memory; arguments stay.

type linesAndNumbers struct {
	Lines            impl.Lines
	From, To         int64
	First, Last, Day int64
}

func askLinesOk(a linesAndNumbers) bool { return impl.LinesOk(a.Lines) }

func askEarliest(a linesAndNumbers) [][]int64 {
	return impl.Earliest(a.Lines, a.From, a.First, a.Day)
}

func askJourneys(a linesAndNumbers) []impl.Journey {
	return impl.Journeys(a.Lines, a.From, a.To, a.First, a.Day)
}

func askProfile(a linesAndNumbers) []impl.Slot {
	return impl.Profile(a.Lines, a.From, a.To, a.First, a.Last, a.Day)
}

// askLate takes the trip for From, the call for To, and how late it is for First.
func askLate(a linesAndNumbers) impl.Lines { return impl.Late(a.Lines, a.From, a.To, a.First) }

// linesToGuard are of each kind: with Walks and without, by chance, and such as can't be.
func linesToGuard() []impl.Lines {
	tell := numbers(190)
	all := []impl.Lines{
		{}, {Stops: []string{}, Trips: []impl.Trip{}, Walks: []impl.Walk{}}, commute(), service(1), service(3), withWalks(service(3), byFoot(0, 1, 4), byFoot(0, 2, 1)),
		service(3, hops(0, 10, 1, 20, 0, 30, 1, 40, 2, 50)), service(2, shuttle(0, 1, 0, 0, 40)), service(2, trip(halt(0, 1, 1), halt(1, 1000000, 1000000))),
		service(2, trip()), service(2, hops(0, 1)), withWalks(service(2), byFoot(0, 0, 1)),
	}
	for range 12 {
		all = append(all, someService(tell, 2+tell.Intn(5), 1+tell.Intn(6), 5, tell.Intn(5), 10))
	}
	return append(all, bigCity(tell))
}

func TestLinesStayAndJourneysAreNew(t *testing.T) {
	told := 0
	for _, l := range linesToGuard() {
		for _, from := range []int64{-1, 0, 1, 2, 199} {
			for _, to := range []int64{0, 1, 2, 3} {
				for _, first := range []int64{0, 3, 100000, 100001} {
					a := linesAndNumbers{l, from, to, first, first + 20, 0}
					checkMemory(t, "LinesOk", a, askLinesOk)
					checkMemory(t, "Earliest", a, askEarliest)
					checkMemory(t, "Journeys", a, askJourneys)
					checkMemory(t, "Profile", a, askProfile)
					checkMemory(t, "Late", a, askLate)
					told += count(len(askJourneys(a)) > 1)
				}
				if len(l.Stops) > 9 {
					break
				}
			}
		}
	}
	if told < 10 {
		t.Error("too few are told:", told)
	}
}

// spoilJourneys writes into all that was told, and behind it.
func spoilJourneys(js []impl.Journey) {
	for _, j := range js {
		clear(j.Legs)
		_ = append(j.Legs, walked(9), walked(9))
	}
	clear(js)
	_ = append(js, journey(9, 9), journey(9, 9))
}

func spoilLines(l impl.Lines) {
	for _, t := range l.Trips {
		clear(t.Calls)
		_ = append(t.Calls, halt(9, 9, 9), halt(9, 9, 9))
	}
	clear(l.Stops)
	clear(l.Trips)
	clear(l.Walks)
	_ = append(l.Stops, "9", "9")
	_ = append(l.Trips, trip(), trip())
	_ = append(l.Walks, byFoot(9, 9, 9), byFoot(9, 9, 9))
}

// What was told before stays as it was, whatever is done to the arguments and to what is told later.
func TestJourneysDoNotFollow(t *testing.T) {
	l := commute()
	times, js, slots, late := impl.Earliest(l, 0, 5, 0), impl.Journeys(l, 0, 3, 5, 0), impl.Profile(l, 0, 3, 0, 30, 0), impl.Late(l, 0, 1, 7)
	for _, row := range impl.Earliest(l, 0, 5, 0) {
		clear(row)
		_ = append(row, 7, 7, 7)
	}
	spoilJourneys(impl.Journeys(l, 0, 3, 5, 0))
	clear(impl.Profile(l, 0, 3, 0, 30, 0))
	spoilLines(impl.Late(l, 0, 1, 7))
	spoilLines(l)
	check := func(name string) {
		t.Helper()
		checkTable(t, name, times, seconds(5, -1, 35, -1), seconds(-1, 20, 25, 55), seconds(-1, -1, -1, 40), seconds(-1, -1, -1, -1), seconds(-1, -1, -1, -1))
		if !slices.EqualFunc(js, []impl.Journey{journey(1, 55, walked(1), rode(2, 0, 1)), journey(2, 40, rodeAndWalked(0, 0, 1, 0), rode(1, 0, 1))}, sameJourney) {
			t.Error(name, js)
		}
		if !slices.Equal(slots, []impl.Slot{slot(10, 40), slot(20, 55)}) {
			t.Error(name, slots)
		}
		if want := lateOf(commute(), 0, 1, 7); !sameLines(late, want) {
			t.Error(name, late, want)
		}
	}
	check("told before")
	// Not one list of an answer may be in the way of another.
	for _, row := range times {
		_ = append(row, 8, 8, 8)
	}
	for _, j := range js {
		_ = append(j.Legs, walked(8), walked(8), walked(8))
	}
	for _, trip := range late.Trips {
		_ = append(trip.Calls, halt(8, 8, 8), halt(8, 8, 8))
	}
	check("written behind each")
}

// What is late by nothing is another timetable all the same: neither follows the other.
func TestLateDoesNotFollow(t *testing.T) {
	l := commute()
	for _, by := range []int64{0, 3} {
		late := impl.Late(l, 2, 0, by)
		spoilLines(late)
		checkLinesOk(t, "as it was", l, true)
		if !sameLines(l, commute()) {
			t.Error("by", by, "has changed what was given:", l)
		}
	}
}

// strangeLines are often such as can be: number is mostly small, but may be any now and then.
func strangeLines(number func() int64, draw func(n int) int, text func() string) impl.Lines {
	var l impl.Lines
	for range 2 + draw(3) {
		l.Stops = append(l.Stops, text())
	}
	// other is mostly another stop.
	other := func(stop int64) int64 {
		if draw(60) == 0 {
			return number()
		}
		return (stop + 1 + int64(draw(len(l.Stops)-1))) % int64(len(l.Stops))
	}
	for range draw(5) {
		t, stop, time := impl.Trip{Line: text(), Days: 1 + 9*number()}, int64(draw(len(l.Stops))), number()
		for range 2 + draw(3) - draw(40)/39 {
			t.Calls = append(t.Calls, halt(stop, time, time+number()))
			time = t.Calls[len(t.Calls)-1].Depart + number() - int64(draw(60)/59)
			stop = other(stop)
		}
		l.Trips = append(l.Trips, t)
	}
	for range draw(3) {
		from := int64(draw(len(l.Stops)))
		l.Walks = append(l.Walks, byFoot(from, other(from), number()))
	}
	return l
}

func TestLinesOfEveryKindAreAnswered(t *testing.T) {
	tell := numbers(191)
	good, told, slots, lates := map[bool]int{}, map[bool]int{}, 0, 0
	number := func() int64 {
		if tell.Intn(200) > 0 {
			return tell.Int63n(3)
		}
		return pick(tell, append(strange(), 4, 5, 199, 200, 7199, 7200, 10000, 10001, 100000, 100001, 1000000, 1000001)...)
	}
	text := func() string {
		if tell.Intn(60) > 0 {
			return "a"
		}
		return pick(tell, badTexts()...)
	}
	for range 40000 {
		l := strangeLines(number, tell.Intn, text)
		from, to, first, day := pick(tell, 0, 0, number()), pick(tell, 1, 1, number()), number(), number()
		last := number()
		if numbered(first, 1000001) {
			last += first
		}
		ok := questionCanBe(l, from, to, first, day)
		good[ok]++
		checkLinesOk(t, "strange", l, linesCanBe(l))
		checkEarliest(t, "strange", l, from, first, day, earliestOf(l, from, first, day)...)
		js := journeysOf(l, from, to, first, day)
		checkJourneys(t, "strange", l, from, to, first, day, js...)
		told[len(js) > 0]++
		window := profileOf(l, from, to, first, last, day)
		checkProfile(t, "strange", l, from, to, first, last, day, window...)
		slots += count(len(window) > 0)
		late := lateOf(l, from, to, first)
		checkLate(t, "strange", l, from, to, first, late)
		lates += count(len(late.Trips) > 0)
		if t.Failed() {
			t.Fatal(l, from, to, first, last, day)
		}
	}
	if good[true] < 8000 || good[false] < 8000 || told[true] < 4000 || told[false] < 4000 || slots < 4000 || lates < 3000 {
		t.Error("too few of a kind:", good, told, slots, lates)
	}
}

func TestGreatListsOfLinesAreAnswered(t *testing.T) {
	many := 1 << 20
	for name, l := range map[string]impl.Lines{
		"stops": {Stops: make([]string, many)}, "trips": {Stops: stopNames(2), Trips: make([]impl.Trip, many)}, "Walks": {Stops: stopNames(2), Walks: make([]impl.Walk, many)},
		"calls": service(2, impl.Trip{Line: "1", Days: 1, Calls: make([]impl.Call, many)}), "stops that can be": service(many),
		"calls that can be": service(2, shuttle(0, 1, 0, 0, many)), "trips that can be": service(2, slices.Repeat([]impl.Trip{hops(0, 1, 1, 2)}, many)...),
		"Walks that can be": withWalks(service(2), slices.Repeat([]impl.Walk{byFoot(0, 1, 2)}, many)...),
	} {
		checkLinesOk(t, name, l, false)
		checkEarliest(t, name, l, 0, 0, 0)
		checkNoJourneys(t, name, l, 0, 1, 0, 0)
		checkLate(t, name, l, 0, 0, 0, impl.Lines{})
	}
}

func TestTheSameLinesAreAnsweredAgain(t *testing.T) {
	tell := numbers(192)
	for range 500 {
		l := someService(tell, 2+tell.Intn(5), 1+tell.Intn(9), 5, tell.Intn(5), 10)
		from, to, start, day := someQuestion(tell, l, 8)
		times, js, slots, late := impl.Earliest(l, from, start, day), impl.Journeys(l, from, to, start, day), impl.Profile(l, from, to, start, start+30, day), impl.Late(l, 0, 1, start)
		impl.Journeys(commute(), 0, 3, 5, 0)
		impl.Profile(commute(), 0, 3, 0, 90, 0)
		impl.Late(commute(), 0, 0, 9)
		for range 3 {
			checkEarliest(t, "again", l, from, start, day, times...)
			checkJourneys(t, "again", l, from, to, start, day, js...)
			checkProfile(t, "again", l, from, to, start, start+30, day, slots...)
			checkLate(t, "again", l, 0, 1, start, late)
		}
	}
}

// Beside those of other calls the answers are the same.
func TestJourneysAreTheSameHoweverTheyRun(t *testing.T) {
	defer runtime.GOMAXPROCS(runtime.GOMAXPROCS(0))
	tell := numbers(193)
	for range 6 {
		l := someService(tell, 6, 20, 6, 6, 15)
		js, slots, late := journeysOf(l, 0, 5, 1, 0), profileOf(l, 0, 5, 1, 40, 0), lateOf(l, 3, 1, 5)
		for _, processors := range []int{1, 2, 8} {
			runtime.GOMAXPROCS(processors)
			var open sync.WaitGroup
			for range 8 {
				open.Go(func() {
					checkEarliest(t, "side by side", l, 0, 1, 0, earliestOf(l, 0, 1, 0)...)
					checkJourneys(t, "side by side", l, 0, 5, 1, 0, js...)
					checkProfile(t, "side by side", l, 0, 5, 1, 40, 0, slots...)
					checkLate(t, "side by side", l, 3, 1, 5, late)
				})
			}
			open.Wait()
		}
	}
}
