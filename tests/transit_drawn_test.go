package tests

import (
	"slices"
	"testing"

	"loop.example/g00024/impl"
)

// Promise 15, on small timetables, drawn: nothing is earlier than what is told, and what is told can be ridden.

// ridden is where and when one is behind these legs, and by how many rides; not when one of them can't be ridden.
func ridden(l impl.Lines, from int64, start int64, day int64, legs []impl.Leg) (stop int64, time int64, rides int64, ok bool) {
	stop, time, ok = from, start, true
	for i, leg := range legs {
		if leg.Trip == -1 {
			// It stands alone ahead of all rides, and is a Walk.
			ok = ok && i == 0 && leg == walked(leg.Walk) && leg.Walk != -1
		} else {
			ok = ok && numbered(leg.Trip, len(l.Trips)) && 0 <= leg.On && leg.On < leg.Off && numbered(leg.Off, len(l.Trips[leg.Trip].Calls))
			if !ok {
				return 0, 0, 0, false
			}
			t := l.Trips[leg.Trip]
			on, off := t.Calls[leg.On], t.Calls[leg.Off]
			ok = t.Days&(1<<day) != 0 && on.Stop == stop && on.Depart >= time
			stop, time = off.Stop, off.Arrive
			rides++
		}
		if leg.Walk != -1 {
			ok = ok && numbered(leg.Walk, len(l.Walks)) && l.Walks[leg.Walk].From == stop
			if !ok {
				return 0, 0, 0, false
			}
			stop, time = l.Walks[leg.Walk].To, time+l.Walks[leg.Walk].Time
		}
	}
	return stop, time, rides, ok
}

// checkRidden rides all legs, and holds the times against those of Earliest.
func checkRidden(t *testing.T, l impl.Lines, from int64, to int64, start int64, day int64, js []impl.Journey) {
	t.Helper()
	times := impl.Earliest(l, from, start, day)
	best := int64(-1)
	for k, row := range times {
		at := slices.IndexFunc(js, func(j impl.Journey) bool { return j.Rides == int64(k) })
		if earlier := row[to] >= 0 && (best < 0 || row[to] < best); earlier != (at >= 0) {
			t.Error(k, "rides are told, or not, against", times, js)
			return
		} else if !earlier {
			continue
		}
		best = row[to]
		stop, time, rides, ok := ridden(l, from, start, day, js[at].Legs)
		if !ok || stop != to || time != best || js[at].Arrive != best || rides != int64(k) {
			t.Error("can't be ridden so:", js[at], "one is at", stop, time)
		}
	}
}

// checkWindow asks for each second of a window, by what Journeys say, whether one arrives as with the next Slot.
func checkWindow(t *testing.T, l impl.Lines, from int64, to int64, first int64, last int64, day int64, slots []impl.Slot) {
	t.Helper()
	for i, s := range slots {
		if s.Depart < first || s.Depart > last || i > 0 && (s.Depart <= slots[i-1].Depart || s.Arrive <= slots[i-1].Arrive) {
			t.Error("not ascending, or not in the window:", slots)
			return
		}
	}
	for start := first; start <= last; start++ {
		js := impl.Journeys(l, from, to, start, day)
		next := slices.IndexFunc(slots, func(s impl.Slot) bool { return s.Depart >= start })
		if (next < 0) != (len(js) == 0) || next >= 0 && js[len(js)-1].Arrive != slots[next].Arrive {
			t.Error("leaving at", start, "gives", js, "and not as the next of", slots)
			return
		}
	}
}

// serviceKinds counts what was drawn.
type serviceKinds struct {
	journeys, none, several, rides, afoot, walks, slots, tied int
}

func (k *serviceKinds) note(js []impl.Journey, slots []impl.Slot) {
	k.journeys += len(js)
	k.none += count(len(js) == 0)
	k.several += count(len(js) > 1)
	k.slots += count(len(slots) > 1)
	for _, j := range js {
		k.rides += count(j.Rides > 2)
		for i, leg := range j.Legs {
			k.afoot += count(i == 0 && leg.Trip < 0)
			k.walks += count(leg.Trip >= 0 && leg.Walk >= 0)
		}
	}
}

// noteTies counts where several legs would lead on as early.
func (k *serviceKinds) noteTies(l impl.Lines, from int64, start int64, day int64, js []impl.Journey) {
	b, lifts := byRounds(l, from, start, day), liftsOn(l, day)
	for _, j := range js {
		for i := len(j.Legs) - 1; i >= 0; i-- {
			stop, _, rides, _ := ridden(l, from, start, day, j.Legs[:i+1])
			k.tied += count(len(lastLegs(l, b, lifts, int(rides), stop)) > 1)
		}
	}
}

func (k *serviceKinds) check(t *testing.T, least serviceKinds) {
	t.Helper()
	if k.journeys < least.journeys || k.none < least.none || k.several < least.several || k.rides < least.rides ||
		k.afoot < least.afoot || k.walks < least.walks || k.slots < least.slots || k.tied < least.tied {
		t.Errorf("too few of a kind: %+v", *k)
	}
}

// Tiny timetables, of which every way is gone through.
func TestJourneysAmongAllWays(t *testing.T) {
	tell := numbers(182)
	var k serviceKinds
	for range 30000 {
		l := someService(tell, 2+tell.Intn(5), 1+tell.Intn(6), 3, tell.Intn(4), 6)
		from, to, start, day := someQuestion(tell, l, 5)
		checkEarliest(t, "all ways", l, from, start, day, byEachWay(l, from, start, day).told()...)
		js := journeysAmong(l, from, to, start, day)
		checkJourneys(t, "all ways", l, from, to, start, day, js...)
		checkRidden(t, l, from, to, start, day, js)
		k.note(js, nil)
		k.noteTies(l, from, start, day, js)
		if t.Failed() {
			t.Fatal(l, from, to, start, day)
		}
	}
	k.check(t, serviceKinds{journeys: 14000, none: 9000, several: 450, rides: 90, afoot: 3500, walks: 600, tied: 700})
}

// Both reckonings say the same.
func TestWaysAreReckonedAlike(t *testing.T) {
	tell := numbers(183)
	for range 3000 {
		l := someService(tell, 2+tell.Intn(5), 1+tell.Intn(6), 3, tell.Intn(4), 6)
		from, to, start, day := someQuestion(tell, l, 5)
		a, b := byEachWay(l, from, start, day), byRounds(l, from, start, day)
		checkTable(t, "by each way", a.told(), b.told()...)
		if !slices.EqualFunc(a.alone[:], b.alone[:], slices.Equal[[]int64]) {
			t.Error("by rides alone", a.alone, b.alone)
		}
		if one, other := journeysAmong(l, from, to, start, day), journeysOf(l, from, to, start, day); !slices.EqualFunc(one, other, sameJourney) {
			t.Error("among all ways", one, other)
		}
		if t.Failed() {
			t.Fatal(l, from, to, start, day)
		}
	}
}

func TestJourneysOfSmallTimetables(t *testing.T) {
	tell := numbers(184)
	var k serviceKinds
	for range 20000 {
		l := someService(tell, 2+tell.Intn(7), 1+tell.Intn(30), 2+tell.Intn(7), tell.Intn(8), 20)
		from, to, start, day := someQuestion(tell, l, 20)
		checkEarliest(t, "drawn", l, from, start, day, earliestOf(l, from, start, day)...)
		js := journeysOf(l, from, to, start, day)
		checkJourneys(t, "drawn", l, from, to, start, day, js...)
		checkRidden(t, l, from, to, start, day, js)
		k.note(js, nil)
		k.noteTies(l, from, start, day, js)
		if t.Failed() {
			t.Fatal(l, from, to, start, day)
		}
	}
	k.check(t, serviceKinds{journeys: 13000, none: 4000, several: 1200, rides: 350, afoot: 4000, walks: 1400, tied: 1900})
}

func TestProfilesOfSmallTimetables(t *testing.T) {
	tell := numbers(185)
	var k serviceKinds
	for range 2500 {
		l := someService(tell, 2+tell.Intn(6), 1+tell.Intn(20), 2+tell.Intn(7), tell.Intn(8), 30)
		from, to, first, day := someQuestion(tell, l, 20)
		last := first + tell.Int63n(40) - 1
		slots := profileOf(l, from, to, first, last, day)
		checkProfile(t, "drawn", l, from, to, first, last, day, slots...)
		checkWindow(t, l, from, to, first, last, day, slots)
		k.note(nil, slots)
		if t.Failed() {
			t.Fatal(l, from, to, first, last, day)
		}
	}
	k.check(t, serviceKinds{slots: 800})
}

// When a trip is late, the journeys are those of the timetable in which it stands so.
func TestJourneysWhenSomethingIsLate(t *testing.T) {
	tell := numbers(186)
	changed := 0
	for range 1500 {
		l := someService(tell, 2+tell.Intn(5), 1+tell.Intn(6), 2+tell.Intn(5), tell.Intn(5), 15)
		n := tell.Int63n(int64(len(l.Trips)))
		call, by := tell.Int63n(int64(len(l.Trips[n].Calls))), tell.Int63n(10)
		from, to, start, day := someQuestion(tell, l, 10)
		late := impl.Late(l, n, call, by)
		js := journeysOf(lateOf(l, n, call, by), from, to, start, day)
		checkJourneys(t, "late", late, from, to, start, day, js...)
		checkRidden(t, late, from, to, start, day, js)
		changed += count(!slices.EqualFunc(js, impl.Journeys(l, from, to, start, day), sameJourney))
		if t.Failed() {
			t.Fatal(l, n, call, by)
		}
	}
	if changed < 100 {
		t.Error("too few have changed:", changed)
	}
}
