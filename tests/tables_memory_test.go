package tests

import (
	"runtime"
	"slices"
	"sync"
	"testing"
	"time"

	"loop.example/g00024/impl"
)

// Promise 19, of chapter 11: every function answers at every argument and none panics; answers are new memory; arguments stay.

type graphAndTable struct {
	Graph impl.Graph
	From  []int64
	To    []int64
}

type graphAndPercent struct {
	Graph   impl.Graph
	Ways    []int64
	Percent int64
}

type graphAndDay struct {
	Graph impl.Graph
	Hours []int64
	From  int64
	To    int64
	Start int64
}

func askTimes(a graphAndTable) [][]int64 { return impl.Times(a.Graph, a.From, a.To) }

// askWithin has the limit as its second number.
func askWithin(a graphAndTwo) []impl.Arrival { return impl.Within(a.Graph, a.From, a.To) }

func askSlower(a graphAndPercent) impl.Graph { return impl.Slower(a.Graph, a.Ways, a.Percent) }

func askDaily(a graphAndDay) impl.Path { return impl.Daily(a.Graph, a.Hours, a.From, a.To, a.Start) }

func askCenter(a graphAndTable) int64 { return impl.Center(a.Graph, a.From) }

// streetsToGuard are those of which memory is asked, and more on which one can drive.
func streetsToGuard() []impl.Graph {
	tell := numbers(134)
	graphs := append(graphsToGuard(), star(), lane(40, 3), crossing(10, 10, 10, 11, 10), byMiddles(9, 8, 7, 6), forked(60, 40, 50))
	for range 60 {
		graphs = append(graphs, someStreets(tell, 1+tell.Intn(5), tell.Intn(15)))
	}
	return graphs
}

func TestGraphsStayAndTablesAreNew(t *testing.T) {
	for _, g := range streetsToGuard() {
		last := int64(len(g.Places)) - 1
		for _, from := range [][]int64{nil, {}, {0}, {0, last, 0}, {last, last + 1}, {-1}} {
			for _, to := range [][]int64{nil, {last}, {0, last, last}, {0, last + 1}} {
				checkMemory(t, "Times", graphAndTable{g, from, to}, askTimes)
			}
			checkMemory(t, "Center", graphAndTable{Graph: g, From: from}, askCenter)
		}
		for _, ways := range [][]int64{nil, {}, {1}, {5, 6, 5}, {0, -1}, make([]int64, 1001)} {
			for _, percent := range []int64{0, 1, 100, 250, 10001} {
				checkMemory(t, "Slower", graphAndPercent{g, ways, percent}, askSlower)
			}
		}
		for _, s := range []int64{-1, 0, last, last + 1} {
			for _, limit := range []int64{-1, 0, 5, impl.MaxTime} {
				checkMemory(t, "Within", graphAndTwo{g, s, limit}, askWithin)
			}
			for _, hours := range [][]int64{nil, allDay(100), hourly(), allDay(0), allDay(100)[:23]} {
				checkMemory(t, "Daily", graphAndDay{g, hours, s, last, 40000}, askDaily)
			}
		}
	}
}

// What was told before stays as it was, whatever is done to the arguments and to what is told later.
func TestTablesDoNotFollow(t *testing.T) {
	g := withBans(crossing(10, 10, 10, 11, 10), ban(0, 2))
	from, ways, hours := []int64{0, 1}, []int64{1}, allDay(100)
	type told struct {
		times  [][]int64
		within []impl.Arrival
		slower impl.Graph
		daily  impl.Path
	}
	ask := func() told {
		return told{impl.Times(g, from, from), impl.Within(g, 0, 11), impl.Slower(g, ways, 200), impl.Daily(g, hours, 0, 2, 0)}
	}
	want := withTimes(g, 20, 20, 20, 22, 20)
	first := ask()
	later := ask()
	clear(later.times[0])
	_ = append(later.times[0], 7, 7, 7)
	clear(later.times)
	clear(later.within)
	clear(later.slower.Places)
	clear(later.slower.Roads)
	clear(later.slower.Bans)
	clear(later.daily.Roads)
	for _, list := range [][]int64{from, ways, hours} {
		clear(list)
	}
	clear(g.Places)
	clear(g.Roads)
	clear(g.Bans)
	checkTable(t, "Times", first.times, []int64{0, 10}, []int64{-1, 0})
	if !slices.Equal(first.within, []impl.Arrival{arrival(0, 0), arrival(1, 10), arrival(4, 11)}) {
		t.Error("Within", first.within)
	}
	checkGraph(t, "Slower", first.slower, want)
	checkPath(t, "Daily", first.daily, impl.Path{Found: true, Roads: []int64{3, 4}, Time: 24, Length: 10004 + 10402})
}

// someWildGraph is one that often can be, but has strange numbers now and then.
func someWildGraph(number func() int64, places int, roads int, bans int) impl.Graph {
	g := impl.Graph{Places: make([]impl.Spot, places), Roads: make([]impl.Road, roads), Bans: make([]impl.Ban, bans)}
	for i := range g.Places {
		g.Places[i] = impl.Spot{Id: max(int64(i+1), number()), Point: at(number(), number())}
	}
	for i := range g.Roads {
		g.Roads[i] = impl.Road{From: number(), To: number(), Way: 1 + number(), Time: 1 + number(), Length: number(), Name: "\xff"}
	}
	for i := range g.Bans {
		g.Bans[i] = impl.Ban{From: number(), To: number()}
	}
	return g
}

func TestTablesOfEveryKindAreAnswered(t *testing.T) {
	tell := numbers(135)
	good, rows, driven := map[bool]int{}, 0, 0
	for range 20000 {
		number := func() int64 {
			if tell.Intn(80) > 0 {
				return tell.Int63n(3)
			}
			return pick(tell, strange()...)
		}
		list := func() []int64 { return []int64{number(), number(), number()}[:tell.Intn(4)] }
		g := someWildGraph(number, 2+tell.Intn(2), tell.Intn(5), tell.Intn(6)/4)
		good[graphCanBe(g)]++
		from, to, s, e := list(), list(), number(), number()
		checkTimes(t, "strange", g, from, to, timesOf(g, from, to)...)
		checkCenter(t, "strange", g, from, centerOf(g, from))
		checkWithin(t, "strange", g, s, e, withinOf(g, s, e)...)
		percent := number() * pick(tell, int64(1), 60)
		checkGraph(t, "strange", impl.Slower(g, from, percent), slowerOf(g, from, percent))
		hours := allDay(100)[:pick(tell, 23, 24, 24, 24)]
		hours[0], hours[1], hours[2] = 1+number(), 30+number()*70, 1+number()*3
		hours[22] = 10000 - number() + tell.Int63n(40)/39
		start := number() * pick(tell, int64(1), 1800, 3600)
		day := impl.Daily(g, hours, s, e, start)
		checkPath(t, "strange", day, dailyOf(g, hours, s, e, start))
		rows, driven = rows+len(impl.Times(g, from, to)), driven+len(day.Roads)
		if t.Failed() {
			t.Fatal(g, from, to, s, e, percent, hours, start)
		}
	}
	if good[true] < 4000 || good[false] < 4000 || rows < 2000 || driven < 200 {
		t.Error("too few of a kind:", good, rows, driven)
	}
	for _, g := range []impl.Graph{{Places: make([]impl.Spot, 1<<20)}, {Roads: make([]impl.Road, 1<<20)}, {Bans: make([]impl.Ban, 1<<20)}} {
		checkTimes(t, "a great list", g, []int64{0}, []int64{0})
		checkWithin(t, "a great list", g, 0, 5)
		checkNoSlower(t, "a great list", g, nil, 100)
		checkNoDay(t, "a great list", g, allDay(100), 0, 0, 0)
		checkCenter(t, "a great list", g, []int64{0}, -1)
	}
	great := make([]int64, 1<<20)
	checkTimes(t, "great lists", lane(3, 1), great, great)
	checkCenter(t, "a great list of places", lane(3, 1), great, -1)
	checkNoSlower(t, "a great list of ways", lane(3, 1), great, 100)
	checkNoDay(t, "a great list of hours", lane(3, 1), great, 0, 0, 0)
}

// However goroutines run, by themselves and beside those of other calls, the answers are the same.
func TestTablesAreTheSameHoweverTheyRun(t *testing.T) {
	defer runtime.GOMAXPROCS(runtime.GOMAXPROCS(0))
	tell := numbers(136)
	for range 6 {
		g := someStreets(tell, 30, 90)
		all := manyNumbers(30)
		times, center := timesOf(g, all, all), centerOf(g, all)
		via, others := impl.Via(g, 1, 2, 3), impl.Alternatives(g, 1, 3, wish(10, 1000, 100))
		for _, processors := range []int{1, 2, 3, 8} {
			runtime.GOMAXPROCS(processors)
			var open sync.WaitGroup
			for range 8 {
				open.Go(func() {
					checkTimes(t, "side by side", g, all, all, times...)
					checkCenter(t, "side by side", g, all, center)
					checkPath(t, "side by side", impl.Via(g, 1, 2, 3), via)
					checkPaths(t, "side by side", impl.Alternatives(g, 1, 3, wish(10, 1000, 100)), others)
				})
			}
			open.Wait()
		}
	}
}

// What a call has begun has ended when it answers: none of its goroutines is left.
func TestTablesLeaveNothingRunning(t *testing.T) {
	g := lane(60, 3)
	before := runtime.NumGoroutine()
	for range 200 {
		impl.Times(g, manyNumbers(60), manyNumbers(60))
		impl.Center(g, manyNumbers(60))
		impl.Alternatives(g, 0, 59, wish(3, 1000, 100))
	}
	// A goroutine that has said that it is done may need a moment more to be gone.
	for range 1000 {
		if runtime.NumGoroutine() <= before {
			return
		}
		time.Sleep(time.Millisecond)
	}
	t.Error(runtime.NumGoroutine(), "goroutines run, and not", before)
}
