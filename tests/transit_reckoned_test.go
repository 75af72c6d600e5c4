package tests

import (
	"cmp"
	"math"
	"slices"

	"loop.example/g00024/impl"
)

// Chapter 15 reckoned once more from its words, twice: by going through every way that one can take, one by one; and, for timetables that
// have too many of these, by going through all trips from their first call on, once for each ride.

func linesCanBe(l impl.Lines) bool {
	ok := len(l.Stops) < 201 && len(l.Trips) < 501 && len(l.Walks) < 301
	for _, name := range l.Stops {
		ok = ok && valueForm.MatchString(name)
	}
	for _, t := range l.Trips {
		ok = ok && valueForm.MatchString(t.Line) && t.Days > 0 && t.Days < 128 && len(t.Calls) > 1 && len(t.Calls) < 41
		for i, c := range t.Calls {
			ok = ok && numbered(c.Stop, len(l.Stops)) && numbered(c.Arrive, 1000001) && numbered(c.Depart, 1000001) && c.Arrive <= c.Depart
			if i > 0 {
				ok = ok && t.Calls[i-1].Stop != c.Stop && t.Calls[i-1].Depart <= c.Arrive
			}
		}
	}
	for _, w := range l.Walks {
		ok = ok && numbered(w.From, len(l.Stops)) && numbered(w.To, len(l.Stops)) && w.From != w.To && numbered(w.Time, 10001)
	}
	return ok
}

func questionCanBe(l impl.Lines, from int64, to int64, start int64, day int64) bool {
	return linesCanBe(l) && numbered(from, len(l.Stops)) && numbered(to, len(l.Stops)) && numbered(start, 1000001) && numbered(day, 7)
}

// lift is a ride that one may take, where and when.
type lift struct {
	trip, on, off          int
	from, depart, to, ends int64
}

func runsOn(t impl.Trip, day int64) bool {
	return t.Days/[]int64{1, 2, 4, 8, 16, 32, 64}[day]%2 == 1
}

// liftsOn are all of a day, by their trips, On and Off.
func liftsOn(l impl.Lines, day int64) []lift {
	var lifts []lift
	for n, t := range l.Trips {
		for on := range t.Calls {
			for off := on + 1; off < len(t.Calls) && runsOn(t, day); off++ {
				a, b := t.Calls[on], t.Calls[off]
				lifts = append(lifts, lift{n, on, off, a.Stop, a.Depart, b.Stop, b.Arrive})
			}
		}
	}
	return lifts
}

// far is later than every time.
const far = math.MaxInt64 / 2

// tableau has, by rides and stops, the least time by a ride (or the start) alone, and perhaps by one Walk.
type tableau struct {
	alone [5][]int64
	there [5][]int64
}

func emptyTableau(stops int) tableau {
	var b tableau
	for k := range 5 {
		b.alone[k], b.there[k] = slices.Repeat([]int64{far}, stops), slices.Repeat([]int64{far}, stops)
	}
	return b
}

func (b tableau) told() [][]int64 {
	var rows [][]int64
	for _, row := range b.there {
		row = slices.Clone(row)
		for i := range row {
			if row[i] == far {
				row[i] = -1
			}
		}
		rows = append(rows, row)
	}
	return rows
}

// byRounds stays in each trip that can be boarded: so one comes to all of its later calls.
func byRounds(l impl.Lines, from int64, start int64, day int64) tableau {
	b := emptyTableau(len(l.Stops))
	b.alone[0][from] = start
	for k := range 5 {
		for _, t := range l.Trips {
			in := false
			for _, c := range t.Calls {
				if in {
					b.alone[k][c.Stop] = min(b.alone[k][c.Stop], c.Arrive)
				}
				in = in || k > 0 && runsOn(t, day) && b.there[k-1][c.Stop] <= c.Depart
			}
		}
		copy(b.there[k], b.alone[k])
		for _, w := range l.Walks {
			if b.alone[k][w.From] < far {
				b.there[k][w.To] = min(b.there[k][w.To], b.alone[k][w.From]+w.Time)
			}
		}
	}
	return b
}

// turnOf is by what the Legs that might be the last ones are held against each other: no Walk first, then by the numbers.
func turnOf(a impl.Leg, b impl.Leg) int {
	return cmp.Or(cmp.Compare(a.Walk, b.Walk), cmp.Compare(a.Trip, b.Trip), cmp.Compare(a.On, b.On), cmp.Compare(a.Off, b.Off))
}

// lastLegs are all that lead to a stop at the least time for that many rides.
func lastLegs(l impl.Lines, b tableau, lifts []lift, k int, stop int64) []impl.Leg {
	// The number of the Walk, -1 for none, and where one gets off for it.
	ends := map[int64]int64{-1: stop}
	for i, w := range l.Walks {
		if w.To == stop {
			ends[int64(i)] = w.From
		}
	}
	var legs []impl.Leg
	for walk, off := range ends {
		time := int64(0)
		if walk >= 0 {
			time = l.Walks[walk].Time
		}
		if k == 0 && b.alone[0][off]+time == b.there[0][stop] {
			legs = append(legs, walked(walk))
		}
		for _, f := range lifts {
			if k > 0 && f.to == off && f.ends+time == b.there[k][stop] && b.there[k-1][f.from] <= f.depart {
				legs = append(legs, rodeAndWalked(int64(f.trip), int64(f.on), int64(f.off), walk))
			}
		}
	}
	return legs
}

// legsBack tells them from the end on, each time the first one of those that lead there.
func legsBack(l impl.Lines, b tableau, lifts []lift, k int, stop int64) []impl.Leg {
	leg := slices.MinFunc(lastLegs(l, b, lifts, k, stop), turnOf)
	if k == 0 {
		if leg.Walk < 0 {
			return nil
		}
		return []impl.Leg{leg}
	}
	return append(legsBack(l, b, lifts, k-1, l.Trips[leg.Trip].Calls[leg.On].Stop), leg)
}

// eachWay shows every way that one can take: its legs, how many rides these are, where one is then and when, and whether by a Walk.
func eachWay(l impl.Lines, from int64, start int64, day int64, show func(legs []impl.Leg, k int, stop int64, time int64, onFoot bool)) {
	lifts := liftsOn(l, day)
	var be, arrive func(legs []impl.Leg, k int, stop int64, time int64)
	be = func(legs []impl.Leg, k int, stop int64, time int64) {
		for _, f := range lifts {
			if k < 4 && f.from == stop && f.depart >= time {
				arrive(append(slices.Clip(legs), rode(int64(f.trip), int64(f.on), int64(f.off))), k+1, f.to, f.ends)
			}
		}
	}
	arrive = func(legs []impl.Leg, k int, stop int64, time int64) {
		show(legs, k, stop, time, false)
		be(legs, k, stop, time)
		for i, w := range l.Walks {
			if w.From != stop {
				continue
			}
			on := slices.Clone(legs)
			if k == 0 {
				on = []impl.Leg{walked(int64(i))}
			} else {
				on[len(on)-1].Walk = int64(i)
			}
			show(on, k, w.To, time+w.Time, true)
			be(on, k, w.To, time+w.Time)
		}
	}
	arrive(nil, 0, from, start)
}

// byEachWay takes the least times of all ways.
func byEachWay(l impl.Lines, from int64, start int64, day int64) tableau {
	b := emptyTableau(len(l.Stops))
	eachWay(l, from, start, day, func(_ []impl.Leg, k int, stop int64, time int64, onFoot bool) {
		b.there[k][stop] = min(b.there[k][stop], time)
		if !onFoot {
			b.alone[k][stop] = min(b.alone[k][stop], time)
		}
	})
	return b
}

// backwards holds ways of as many rides against each other from their last Legs on. One that has set out on foot comes behind one that has not.
func backwards(a []impl.Leg, b []impl.Leg) int {
	for i := 1; i <= min(len(a), len(b)); i++ {
		if turn := turnOf(a[len(a)-i], b[len(b)-i]); turn != 0 {
			return turn
		}
	}
	return cmp.Compare(len(a), len(b))
}

// leastAllAlong asks whether one is, wherever one boards, there at the least time for so many rides.
func leastAllAlong(l impl.Lines, b tableau, from int64, start int64, legs []impl.Leg) bool {
	stop, time, k := from, start, 0
	for _, leg := range legs {
		if leg.Trip >= 0 {
			if time != b.there[k][stop] {
				return false
			}
			k++
			off := l.Trips[leg.Trip].Calls[leg.Off]
			stop, time = off.Stop, off.Arrive
		}
		if leg.Walk >= 0 {
			stop, time = l.Walks[leg.Walk].To, time+l.Walks[leg.Walk].Time
		}
	}
	return time == b.there[k][stop]
}

// journeysAmong has the ways to a stop that are told, chosen among all ways.
func journeysAmong(l impl.Lines, from int64, to int64, start int64, day int64) []impl.Journey {
	b := byEachWay(l, from, start, day)
	var told [5][]impl.Leg
	var found [5]bool
	eachWay(l, from, start, day, func(legs []impl.Leg, k int, stop int64, time int64, _ bool) {
		if stop == to && time == b.there[k][to] && leastAllAlong(l, b, from, start, legs) && (!found[k] || backwards(legs, told[k]) < 0) {
			told[k], found[k] = slices.Clone(legs), true
		}
	})
	return earlier(b, to, func(k int) []impl.Leg { return told[k] })
}

// earlier has a journey for each number of rides with which one is earlier than with fewer.
func earlier(b tableau, to int64, legs func(k int) []impl.Leg) []impl.Journey {
	var js []impl.Journey
	for k := range 5 {
		ok := b.there[k][to] < far
		for fewer := range k {
			ok = ok && b.there[k][to] < b.there[fewer][to]
		}
		if ok {
			js = append(js, journey(int64(k), b.there[k][to], legs(k)...))
		}
	}
	return js
}

func earliestOf(l impl.Lines, from int64, start int64, day int64) [][]int64 {
	if !questionCanBe(l, from, from, start, day) {
		return nil
	}
	return byRounds(l, from, start, day).told()
}

func journeysOf(l impl.Lines, from int64, to int64, start int64, day int64) []impl.Journey {
	if !questionCanBe(l, from, to, start, day) {
		return nil
	}
	b, lifts := byRounds(l, from, start, day), liftsOn(l, day)
	return earlier(b, to, func(k int) []impl.Leg { return legsBack(l, b, lifts, k, to) })
}

// arrivalOf is the least with however many rides, or far.
func arrivalOf(l impl.Lines, from int64, to int64, start int64, day int64) int64 {
	b := byRounds(l, from, start, day)
	time := int64(far)
	for k := range 5 {
		time = min(time, b.there[k][to])
	}
	return time
}

// profileOf holds each start against every later one.
func profileOf(l impl.Lines, from int64, to int64, first int64, last int64, day int64) []impl.Slot {
	if !questionCanBe(l, from, to, first, day) || !questionCanBe(l, from, to, last, day) || last-first+1 > 7200 {
		return nil
	}
	var arrivals []int64
	for start := first; start <= last; start++ {
		arrivals = append(arrivals, arrivalOf(l, from, to, start, day))
	}
	var slots []impl.Slot
	for i, a := range arrivals {
		if a < far && !slices.ContainsFunc(arrivals[i+1:], func(later int64) bool { return later <= a }) {
			slots = append(slots, slot(first+int64(i), a))
		}
	}
	return slots
}

func lateOf(l impl.Lines, trip int64, call int64, by int64) impl.Lines {
	if !linesCanBe(l) || !numbered(trip, len(l.Trips)) || !numbered(call, len(l.Trips[trip].Calls)) || !numbered(by, 100001) {
		return impl.Lines{}
	}
	l = same(l)
	for i, c := range l.Trips[trip].Calls {
		if i >= int(call) {
			l.Trips[trip].Calls[i] = halt(c.Stop, c.Arrive+by, c.Depart+by)
		}
	}
	if !linesCanBe(l) {
		return impl.Lines{}
	}
	return l
}
