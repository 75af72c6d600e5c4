package tests

import (
	"slices"
	"testing"

	"loop.example/g00024/impl"
)

// Promise 15, of Journeys: they can be ridden, and are told by the stated order.

func TestJourneys(t *testing.T) {
	l := commute()
	checkJourneys(t, "all kinds of legs", l, 0, 3, 5, 0, journey(1, 55, walked(1), rode(2, 0, 1)), journey(2, 40, rodeAndWalked(0, 0, 1, 0), rode(1, 0, 1)))
	checkJourneys(t, "too late for the first trip", l, 0, 3, 11, 0, journey(1, 55, walked(1), rode(2, 0, 1)))
	checkJourneys(t, "too late for all", l, 0, 3, 21, 0)
	checkJourneys(t, "on foot, and sooner by a ride", l, 0, 2, 5, 0, journey(0, 35, walked(1)), journey(1, 25, rodeAndWalked(0, 0, 1, 0)))
	checkJourneys(t, "by a ride alone", l, 0, 1, 5, 0, journey(1, 20, rode(0, 0, 1)))
	checkJourneys(t, "nothing leads there", l, 3, 0, 5, 0)
	checkJourneys(t, "on foot, then by a ride", l, 1, 3, 25, 0, journey(1, 40, walked(0), rode(1, 0, 1)))
}

func TestJourneysToWhereOneIs(t *testing.T) {
	l := withWalks(service(2, shuttle(0, 1, 5, 0, 9)), byFoot(0, 1, 0), byFoot(1, 0, 0))
	for stop := range int64(2) {
		for _, start := range []int64{0, 5, 6, 1000000} {
			checkJourneys(t, "one is there", l, stop, stop, start, 0, journey(0, start))
		}
	}
	for stop := range int64(4) {
		checkJourneys(t, "one is there", commute(), stop, stop, 3, 6, journey(0, 3))
	}
}

func TestJourneysOfWhatCantBe(t *testing.T) {
	l := commute()
	for _, stop := range append(farNumbers(), 4) {
		checkNoJourneys(t, "from no stop", l, stop, 3, 5, 0)
		checkNoJourneys(t, "to no stop", l, 0, stop, 5, 0)
		checkNoJourneys(t, "from no stop to it", l, stop, stop, 5, 0)
	}
	for _, start := range []int64{farNumbers()[0], -1, 1000001, farNumbers()[4]} {
		checkNoJourneys(t, "no start", l, 0, 3, start, 0)
		checkNoJourneys(t, "no start, where one is there", l, 3, 3, start, 0)
	}
	for _, day := range append(farNumbers(), 7, 64) {
		checkNoJourneys(t, "no day", l, 0, 3, 5, day)
		checkNoJourneys(t, "no day, where one is there", l, 3, 3, 5, day)
	}
	checkNoJourneys(t, "nothing at all", impl.Lines{}, 0, 0, 0, 0)
	for _, bad := range badLines() {
		for to := range int64(4) {
			checkNoJourneys(t, bad.name, bad.lines, 0, to, 5, 0)
		}
	}
}

func TestJourneysOnFoot(t *testing.T) {
	l := withWalks(service(4), byFoot(0, 1, 7), byFoot(1, 2, 1), byFoot(0, 1, 5), byFoot(0, 1, 5), byFoot(0, 3, 0))
	checkJourneys(t, "the quickest Walk, the first of these", l, 0, 1, 10, 0, journey(0, 15, walked(2)))
	checkJourneys(t, "without time", l, 0, 3, 10, 0, journey(0, 10, walked(4)))
	checkJourneys(t, "not two Walks", l, 0, 2, 10, 0)
	checkJourneys(t, "another Walk there", l, 1, 2, 10, 0, journey(0, 11, walked(1)))
	checkJourneys(t, "at the end of time", l, 0, 1, 1000000, 6, journey(0, 1000005, walked(2)))
}

// More rides are told only where one is earlier.
func TestJourneysThatAreEarlier(t *testing.T) {
	first, second, third, fourth := hops(0, 10, 5, 90), hops(0, 10, 1, 20), hops(1, 20, 2, 30), hops(2, 30, 3, 40)
	l := withWalks(service(6, first, second, third, fourth), byFoot(0, 5, 99))
	with := func(trips ...impl.Trip) impl.Lines {
		l := same(l)
		l.Trips = append(l.Trips, trips...)
		return l
	}
	foot, ride := journey(0, 99, walked(0)), journey(1, 90, rode(0, 0, 1))
	checkJourneys(t, "one ride", l, 0, 5, 0, 0, foot, ride)
	sooner := withWalks(l, byFoot(0, 5, 90))
	checkJourneys(t, "the Walk is as early", sooner, 0, 5, 0, 0, journey(0, 90, walked(0)))
	checkJourneys(t, "the Walk is one later", sooner, 0, 5, 1, 0, journey(0, 91, walked(0)), ride)
	checkJourneys(t, "two rides, earlier", with(hops(1, 25, 5, 89)), 0, 5, 0, 0, foot, ride, journey(2, 89, rode(1, 0, 1), rode(4, 0, 1)))
	checkJourneys(t, "two rides, as early", with(hops(1, 25, 5, 90)), 0, 5, 0, 0, foot, ride)
	checkJourneys(t, "two rides, later", with(hops(1, 25, 5, 91)), 0, 5, 0, 0, foot, ride)
	three := journey(3, 80, rode(1, 0, 1), rode(2, 0, 1), rode(4, 0, 1))
	checkJourneys(t, "three rides, earlier", with(hops(2, 35, 5, 80)), 0, 5, 0, 0, foot, ride, three)
	checkJourneys(t, "two and three", with(hops(2, 35, 5, 80), hops(1, 25, 5, 81)), 0, 5, 0, 0, foot, ride, journey(2, 81, rode(1, 0, 1), rode(5, 0, 1)), three)
	checkJourneys(t, "two, three no earlier", with(hops(2, 35, 5, 80), hops(1, 25, 5, 80)), 0, 5, 0, 0, foot, ride, journey(2, 80, rode(1, 0, 1), rode(5, 0, 1)))
	four := journey(4, 70, rode(1, 0, 1), rode(2, 0, 1), rode(3, 0, 1), rode(5, 0, 1))
	checkJourneys(t, "three and four", with(hops(2, 35, 5, 80), hops(3, 40, 5, 70)), 0, 5, 0, 0, foot, ride, three, four)
	checkJourneys(t, "five would be earlier", with(hops(2, 35, 5, 80), hops(3, 40, 4, 41), hops(4, 41, 5, 42)), 0, 5, 0, 0, foot, ride, three)
	checkJourneys(t, "on another day, on foot alone", service(2, onDays(1, hops(0, 1, 1, 2))), 0, 1, 0, 1)
	l.Walks[0].Time = 0
	checkJourneys(t, "the Walk is earliest", l, 0, 5, 0, 0, journey(0, 0, walked(0)))
	checkJourneys(t, "the Walk and the ride as early", l, 0, 5, 90, 0, journey(0, 90, walked(0)))
}

// By a ride alone where that is as early, otherwise by the first Walk.
func TestJourneysByARideOrAWalk(t *testing.T) {
	walk := func(walks ...impl.Walk) impl.Lines {
		return withWalks(service(4, hops(0, 10, 1, 20), hops(0, 10, 2, 20), hops(0, 10, 3, 25)), walks...)
	}
	checkJourneys(t, "the Walk is as early", walk(byFoot(1, 3, 5)), 0, 3, 10, 0, journey(1, 25, rode(2, 0, 1)))
	checkJourneys(t, "the Walk is later", walk(byFoot(1, 3, 6)), 0, 3, 10, 0, journey(1, 25, rode(2, 0, 1)))
	checkJourneys(t, "the Walk is earlier", walk(byFoot(1, 3, 4)), 0, 3, 10, 0, journey(1, 24, rodeAndWalked(0, 0, 1, 0)))
	checkJourneys(t, "the first Walk", walk(byFoot(2, 3, 4), byFoot(1, 3, 4)), 0, 3, 10, 0, journey(1, 24, rodeAndWalked(1, 0, 1, 0)))
	checkJourneys(t, "the first Walk, of a later stop", walk(byFoot(1, 3, 4), byFoot(2, 3, 4)), 0, 3, 10, 0, journey(1, 24, rodeAndWalked(0, 0, 1, 0)))
	checkJourneys(t, "the first that is as early", walk(byFoot(1, 3, 5), byFoot(0, 3, 20), byFoot(2, 3, 4), byFoot(1, 3, 4)), 0, 3, 10, 0,
		journey(0, 30, walked(1)), journey(1, 24, rodeAndWalked(1, 0, 1, 2)))
	checkJourneys(t, "the first of the same two stops", walk(byFoot(1, 3, 5), byFoot(1, 3, 4), byFoot(1, 3, 4)), 0, 3, 10, 0, journey(1, 24, rodeAndWalked(0, 0, 1, 1)))
	checkJourneys(t, "a Walk to elsewhere", walk(byFoot(1, 2, 0), byFoot(1, 3, 4)), 0, 3, 10, 0, journey(1, 24, rodeAndWalked(0, 0, 1, 1)))
	checkJourneys(t, "a Walk from where no one comes", withWalks(service(4, hops(0, 10, 1, 20)), byFoot(2, 3, 0), byFoot(1, 3, 0)), 0, 3, 10, 0, journey(1, 20, rodeAndWalked(0, 0, 1, 1)))
	// Between two rides likewise: one boards where one is at the least time, though one would have time for more.
	change := withWalks(service(5, hops(0, 10, 1, 20), hops(0, 10, 2, 20), hops(0, 10, 3, 25), hops(3, 100, 4, 110)), byFoot(2, 3, 5), byFoot(1, 3, 4))
	checkJourneys(t, "time to spare", change, 0, 4, 10, 0, journey(2, 110, rodeAndWalked(0, 0, 1, 1), rode(3, 0, 1)))
	change.Walks[1].Time = 5
	checkJourneys(t, "time to spare, by a ride alone", change, 0, 4, 10, 0, journey(2, 110, rode(2, 0, 1), rode(3, 0, 1)))
}

func TestJourneysByTheFirstTrip(t *testing.T) {
	l := service(3, onDays(126, hops(0, 10, 2, 30)), hops(0, 10, 2, 31), hops(0, 9, 1, 20, 2, 30), hops(0, 10, 2, 30), hops(0, 20, 2, 30))
	checkJourneys(t, "the first of the day that is as early", l, 0, 2, 5, 0, journey(1, 30, rode(2, 0, 2)))
	checkJourneys(t, "the first of another day", l, 0, 2, 5, 1, journey(1, 30, rode(0, 0, 1)))
	checkJourneys(t, "the first that can be boarded", l, 0, 2, 10, 0, journey(1, 30, rode(3, 0, 1)))
	checkJourneys(t, "the last that can be boarded", l, 0, 2, 11, 0, journey(1, 30, rode(4, 0, 1)))
	checkJourneys(t, "from another stop", l, 1, 2, 11, 0, journey(1, 30, rode(2, 1, 2)))
	// The ride behind says nothing about which ride comes ahead, but where and at which time.
	two := service(3, hops(0, 12, 1, 20), hops(0, 10, 1, 19), hops(0, 11, 1, 19), hops(1, 50, 2, 60), hops(1, 19, 2, 60))
	checkJourneys(t, "the first that is there first", two, 0, 2, 5, 0, journey(2, 60, rode(1, 0, 1), rode(3, 0, 1)))
}

func TestJourneysByTheFirstCalls(t *testing.T) {
	l := service(3, hops(0, 10, 1, 20, 0, 30, 1, 40, 2, 50))
	checkJourneys(t, "the first On", l, 0, 2, 10, 0, journey(1, 50, rode(0, 0, 4)))
	checkJourneys(t, "the first On that can be boarded", l, 0, 2, 11, 0, journey(1, 50, rode(0, 2, 4)))
	checkJourneys(t, "not the last Off", l, 0, 1, 10, 0, journey(1, 20, rode(0, 0, 1)))
	checkJourneys(t, "the later Off", l, 0, 1, 11, 0, journey(1, 40, rode(0, 2, 3)))
	at := service(3, hops(0, 5, 1, 5, 0, 5, 1, 5, 2, 5, 1, 5, 2, 9))
	checkJourneys(t, "the first On and Off, all at once", at, 0, 1, 5, 0, journey(1, 5, rode(0, 0, 1)))
	checkJourneys(t, "the first On and Off, all at once, farther", at, 0, 2, 5, 0, journey(1, 5, rode(0, 0, 4)))
	checkJourneys(t, "the first On and Off, all at once, from between", at, 1, 2, 5, 0, journey(1, 5, rode(0, 1, 4)))
	checkJourneys(t, "the first Off behind On", at, 1, 0, 5, 0, journey(1, 5, rode(0, 1, 2)))
	// The first On counts also where one has to walk for it, and where a later one is at the very stop.
	foot := withWalks(service(3, hops(1, 8, 0, 10, 2, 20)), byFoot(0, 1, 3))
	checkJourneys(t, "a Walk to the first On", foot, 0, 2, 5, 0, journey(1, 20, walked(0), rode(0, 0, 2)))
	checkJourneys(t, "the Walk takes too long", foot, 0, 2, 6, 0, journey(1, 20, rode(0, 1, 2)))
	// Likewise behind a ride: the first On is of a stop that one comes to later.
	ride := service(5, hops(0, 5, 1, 6, 2, 7), hops(2, 8, 1, 9, 3, 20))
	checkJourneys(t, "ahead of the stop that is nearer", ride, 0, 3, 5, 0, journey(2, 20, rode(0, 0, 2), rode(1, 0, 2)))
	// Off and on again, where a second ride is wanted.
	checkJourneys(t, "the first Trip ahead of all calls", service(3, hops(0, 5, 1, 6, 0, 7, 2, 8), hops(0, 5, 2, 8)), 0, 2, 5, 0, journey(1, 8, rode(0, 0, 3)))
}

// A ride that is chosen ahead of another one may lead from elsewhere: from its stop it is told anew.
func TestJourneysAreToldBack(t *testing.T) {
	l := withWalks(service(6,
		hops(1, 30, 5, 50), hops(2, 30, 5, 50), // both lead there as early
		hops(0, 10, 1, 20), hops(0, 10, 2, 15), hops(0, 10, 3, 12), hops(0, 10, 4, 12)), byFoot(4, 1, 7), byFoot(3, 1, 7))
	checkJourneys(t, "by the first Trip, then back from there", l, 0, 5, 10, 0, journey(2, 50, rodeAndWalked(5, 0, 1, 0), rode(0, 0, 1)))
	l.Trips[0], l.Trips[1] = l.Trips[1], l.Trips[0]
	checkJourneys(t, "by the other one first", l, 0, 5, 10, 0, journey(2, 50, rode(3, 0, 1), rode(0, 0, 1)))
	l.Walks = slices.Insert(l.Walks, 0, byFoot(0, 2, 4))
	checkJourneys(t, "on foot to it", l, 0, 5, 10, 0, journey(1, 50, walked(0), rode(0, 0, 1)))
}

// Four rides with a Walk ahead and one behind each: as many legs as there may be.
func TestJourneysOfAsManyLegsAsMayBe(t *testing.T) {
	l := withWalks(service(10), byFoot(8, 9, 1), byFoot(6, 7, 1), byFoot(4, 5, 1), byFoot(2, 3, 1), byFoot(0, 1, 1))
	for i := range int64(4) {
		l.Trips = append(l.Trips, hops(2*i+1, 10*i+1, 2*i+2, 10*i+10))
	}
	legs := []impl.Leg{walked(4), rodeAndWalked(0, 0, 1, 3), rodeAndWalked(1, 0, 1, 2), rodeAndWalked(2, 0, 1, 1), rodeAndWalked(3, 0, 1, 0)}
	checkJourneys(t, "all of them", l, 0, 9, 0, 0, journey(4, 41, legs...))
	checkJourneys(t, "one Walk less", l, 0, 8, 0, 0, journey(4, 40, append(slices.Clone(legs[:4]), rode(3, 0, 1))...))
	checkJourneys(t, "one less ahead", l, 1, 9, 1, 0, journey(4, 41, legs[1:]...))
	checkJourneys(t, "a second too late", l, 0, 9, 1, 0)
}
