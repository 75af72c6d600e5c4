package tests

import (
	"math"
	"math/rand"
	"strconv"
	"testing"

	"loop.example/g00024/impl"
)

// Promise 9, of SpeedOf and Oneway: how fast, and which way round.

const (
	car  = 1
	foot = 2
)

// noKinds are numbers that are no Kind of vehicle.
func noKinds() []int64 { return []int64{math.MinInt64, -2, -1, 0, 3, 4, 257, 258, math.MaxInt64} }

// checkSpeed wants 0 of every kind that can't be.
func checkSpeed(t *testing.T, name string, ts []impl.Tag, byCar int64, onFoot int64) {
	t.Helper()
	if got := impl.SpeedOf(ts, car); got != byCar {
		t.Error(name, short(ts), "by car", got, "and not", byCar)
	}
	if got := impl.SpeedOf(ts, foot); got != onFoot {
		t.Error(name, short(ts), "on foot", got, "and not", onFoot)
	}
	for _, kind := range noKinds() {
		if got := impl.SpeedOf(ts, kind); got != 0 {
			t.Error(name, short(ts), "of kind", kind, got)
		}
	}
}

func checkOneway(t *testing.T, name string, ts []impl.Tag, want int64) {
	t.Helper()
	if got := impl.Oneway(ts, car); got != want {
		t.Error(name, short(ts), "by car", got, "and not", want)
	}
	for _, kind := range append(noKinds(), foot) {
		if got := impl.Oneway(ts, kind); got != 0 {
			t.Error(name, short(ts), "of kind", kind, got)
		}
	}
}

func TestKindsAreNumbered(t *testing.T) {
	if impl.CarKind != car || impl.FootKind != foot || impl.MaxTime != 1000000 || impl.MaxRoads != 8000 || impl.MaxBans != 2000 {
		t.Error("a constant differs")
	}
}

func TestSpeeds(t *testing.T) {
	checkSpeed(t, "no tags", nil, 0, 0)
	checkSpeed(t, "no tags", []impl.Tag{}, 0, 0)
	checkSpeed(t, "no highway", tags("name", "main", "oneway", "yes"), 0, 0)
	checkSpeed(t, "another key", tags("highways", "main"), 0, 0)
	checkSpeed(t, "motorway", tags("highway", "motorway"), 30, 0)
	checkSpeed(t, "main", tags("highway", "main"), 20, 1)
	checkSpeed(t, "street", tags("highway", "street"), 10, 1)
	for _, word := range []string{"path", "Main", "main ", " main", "mai", "mains", "no", "private", "yes", "0", "-1", "Motorway", "motorway ", "motorways"} {
		checkSpeed(t, "another word", tags("highway", word), 0, 1)
		checkSpeed(t, "another word, with a maxspeed", tags("highway", word, "maxspeed", "5"), 0, 1)
	}
	checkSpeed(t, "among others", tags("bridge", "yes", "highway", "main", "name", "street"), 20, 1)
}

func TestAccess(t *testing.T) {
	speeds := map[string]int64{"motorway": 30, "main": 20, "street": 10, "path": 0}
	for highway, speed := range speeds {
		for _, word := range []string{"no", "private"} {
			checkSpeed(t, "forbidden", tags("access", word, "highway", highway), 0, 0)
			checkSpeed(t, "forbidden, with a maxspeed", tags("access", word, "highway", highway, "maxspeed", "5"), 0, 0)
		}
		for _, word := range []string{"yes", "No", "no ", " no", "n", "nO", "none", "privat", "privately", "Private", "private;no", "-1", "0"} {
			checkSpeed(t, "not forbidden", tags("access", word, "highway", highway), speed, min(1, max(0, 29-speed)))
		}
	}
	checkSpeed(t, "another key", tags("acces", "no", "highway", "main"), 20, 1)
	checkSpeed(t, "no highway", tags("access", "yes"), 0, 0)
}

func TestMaxspeed(t *testing.T) {
	for highway, speed := range map[string]int64{"motorway": 30, "main": 20, "street": 10} {
		onFoot := min(1, 30-speed)
		for limit := int64(1); limit <= 40; limit++ {
			for _, noughts := range []string{"", "0", "00", "00000000"} {
				checkSpeed(t, "a limit", tags("highway", highway, "maxspeed", noughts+strconv.FormatInt(limit, 10)), min(limit, speed), onFoot)
			}
		}
		for _, text := range []string{
			"0", "00", "0000000000", "none", "5 ", " 5", "+5", "-5", "5.0", "5x", "x5", "0x5", "1_0", "5 mph", "1e0", "\xb2", "\u0665", "-1", "-", "+", ".",
			"300", "1000000001", "4294967301", "9999999999", "99999999999", "18446744073709551621", "9223372036854775813",
			"00000000005", "00000000012", "000000000000000000000000000005",
		} {
			checkSpeed(t, "no limit", tags("highway", highway, "maxspeed", text), speed, onFoot)
		}
		checkSpeed(t, "ten digits", tags("highway", highway, "maxspeed", "0000000005"), 5, onFoot)
		checkSpeed(t, "another key", tags("highway", highway, "maxspeeds", "5"), speed, onFoot)
	}
	checkSpeed(t, "no highway", tags("maxspeed", "5"), 0, 0)
	checkSpeed(t, "no car", tags("highway", "path", "maxspeed", "5"), 0, 1)
}

// What can't be is asked by the first tag with the key, as TagOf does; an empty Value is as good as none.
func TestSpeedsOfTagsThatCanNotBe(t *testing.T) {
	checkSpeed(t, "an empty highway", tags("highway", ""), 0, 0)
	checkSpeed(t, "an empty highway ahead", tags("highway", "", "highway", "main"), 0, 0)
	checkSpeed(t, "a highway twice", tags("highway", "street", "highway", "main"), 10, 1)
	checkSpeed(t, "out of order", tags("maxspeed", "5", "highway", "main"), 5, 1)
	checkSpeed(t, "an empty maxspeed", tags("highway", "main", "maxspeed", ""), 20, 1)
	checkSpeed(t, "a maxspeed twice", tags("highway", "main", "maxspeed", "7", "maxspeed", "5"), 7, 1)
	checkSpeed(t, "an empty access", tags("access", "", "highway", "main"), 20, 1)
	checkSpeed(t, "an access twice", tags("access", "yes", "access", "no", "highway", "main"), 20, 1)
	checkSpeed(t, "an access behind", tags("highway", "main", "access", "no"), 0, 0)
	checkSpeed(t, "bytes of every kind", tags("highway", "\x00\xff", "\xff", "\n"), 0, 1)
	checkSpeed(t, "too many", append(manyTags(impl.MaxTags), tag("highway", "main")), 20, 1)
	checkSpeed(t, "far too many", append(make([]impl.Tag, 1<<20), tag("highway", "main")), 20, 1)
}

func TestOneway(t *testing.T) {
	checkOneway(t, "no tags", nil, 0)
	checkOneway(t, "no tags", []impl.Tag{}, 0)
	checkOneway(t, "yes", tags("oneway", "yes"), 1)
	checkOneway(t, "-1", tags("oneway", "-1"), -1)
	checkOneway(t, "missing in a ring", tags("junction", "ring"), 1)
	checkOneway(t, "yes in a ring", tags("junction", "ring", "oneway", "yes"), 1)
	checkOneway(t, "-1 in a ring", tags("junction", "ring", "oneway", "-1"), -1)
	for _, word := range []string{"no", "Yes", "yes ", " yes", "1", "0", "-01", "- 1", "-1 ", "-10", "ring", "true"} {
		checkOneway(t, "another word", tags("oneway", word), 0)
		checkOneway(t, "another word in a ring", tags("junction", "ring", "oneway", word), 0)
	}
	for _, word := range []string{"star", "Ring", "ring ", "rings", "yes", "-1"} {
		checkOneway(t, "another junction", tags("junction", word), 0)
		checkOneway(t, "another junction, yes", tags("junction", word, "oneway", "yes"), 1)
		checkOneway(t, "another junction, -1", tags("junction", word, "oneway", "-1"), -1)
	}
	checkOneway(t, "other keys", tags("junctions", "ring", "oneways", "yes"), 0)
	checkOneway(t, "whatever the speed", tags("access", "no", "highway", "path", "oneway", "yes"), 1)
	// Of Tags that can't be: an empty Value is as good as none.
	checkOneway(t, "empty", tags("oneway", ""), 0)
	checkOneway(t, "empty in a ring", tags("junction", "ring", "oneway", ""), 1)
	checkOneway(t, "empty in no ring", tags("junction", "", "oneway", ""), 0)
	checkOneway(t, "twice", tags("oneway", "-1", "oneway", "yes"), -1)
	checkOneway(t, "out of order", tags("oneway", "", "junction", "ring"), 1)
	checkOneway(t, "far too many", append(make([]impl.Tag, 1<<20), tag("oneway", "-1")), -1)
}

// strangeRoadTags may be no Tags: Keys stand there twice, out of order, with empty Values.
func strangeRoadTags(r *rand.Rand) []impl.Tag {
	ts := append(someRoadTags(r), someRoadTags(r)...)
	for i := range ts {
		if r.Intn(8) == 0 {
			ts[i].Value = ""
		}
	}
	r.Shuffle(len(ts), func(i int, k int) { ts[i], ts[k] = ts[k], ts[i] })
	return ts
}

func TestSpeedsAgainstTheWords(t *testing.T) {
	tell := numbers(108)
	speeds, ways := map[int64]int{}, map[int64]int{}
	for range 40000 {
		ts := pick(tell, someRoadTags(tell), strangeRoadTags(tell))
		byCar := speedOf(ts, car)
		speeds[byCar]++
		checkSpeed(t, "by chance", ts, byCar, speedOf(ts, foot))
		oneway := onewayOf(ts, car)
		ways[oneway]++
		checkOneway(t, "by chance", ts, oneway)
		if t.Failed() {
			t.FailNow()
		}
	}
	for _, speed := range []int64{0, 1, 7, 10, 12, 20, 29, 30} {
		if speeds[speed] < 100 {
			t.Error("too few with speed", speed, speeds)
		}
	}
	if ways[-1] < 1000 || ways[0] < 1000 || ways[1] < 1000 {
		t.Error("too few of a kind:", ways)
	}
}
