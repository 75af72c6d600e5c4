package tests

import (
	"strings"
	"testing"

	"loop.example/g00024/impl"
)

// Promise 3, of chapter 2: what Tags are, and what they say.

func checkTags(t *testing.T, ts []impl.Tag, want bool) {
	t.Helper()
	if got := impl.TagsOk(ts); got != want {
		t.Errorf("TagsOk %q: %v", ts, got)
	}
}

func TestTagsThatCanBe(t *testing.T) {
	checkTags(t, nil, true)
	checkTags(t, []impl.Tag{}, true)
	checkTags(t, tags("highway", "street", "name", "Mill Lane"), true)
	checkTags(t, tags("abcdefghijklmnopqrstuvwxyz0123456789:_", "~ !"), true)
}

func TestTagsThatCanNotBe(t *testing.T) {
	for name, ts := range noTags() {
		if impl.TagsOk(ts) {
			t.Errorf("%s: %q", name, ts)
		}
	}
}

func TestLengthsOfKeysAndValues(t *testing.T) {
	for n := range impl.MaxWord + 3 {
		checkTags(t, tags(strings.Repeat("k", n), "v"), 1 <= n && n <= 40)
	}
	for n := range impl.MaxValue + 3 {
		checkTags(t, tags("k", strings.Repeat("v", n)), 1 <= n && n <= 100)
	}
	checkTags(t, tags(strings.Repeat("k", impl.MaxWord), strings.Repeat("v", impl.MaxValue)), true)
	checkTags(t, tags(strings.Repeat("k", 1<<20), "v"), false)
	checkTags(t, tags("k", strings.Repeat("v", 1<<20)), false)
}

// Every byte, alone and wherever it may stand among others.
func TestBytesOfKeysAndValues(t *testing.T) {
	const inKeys = "abcdefghijklmnopqrstuvwxyz0123456789:_"
	for b := range 256 {
		one := string([]byte{byte(b)})
		for _, text := range []string{one, one + "ab", "a" + one + "b", "ab" + one} {
			checkTags(t, tags(text, "v"), strings.Contains(inKeys, one))
			checkTags(t, tags("k", text), 32 <= b && b <= 126)
		}
	}
	// What is a letter elsewhere is bytes here.
	checkTags(t, tags("stra\u00dfe", "v"), false)
	checkTags(t, tags("k", "Stra\u00dfe"), false)
}

// A tag that can't be is found at each place of a list.
func TestOneTagOfMany(t *testing.T) {
	for count := 1; count <= impl.MaxTags; count++ {
		for i := range count {
			ts := manyTags(count)
			ts[i].Value = ""
			checkTags(t, ts, false)
			ts = manyTags(count)
			ts[i].Key += "-"
			checkTags(t, ts, false)
		}
	}
}

func TestHowManyTags(t *testing.T) {
	for count := range impl.MaxTags + 5 {
		checkTags(t, manyTags(count), count <= 30)
	}
}

func TestOrderOfTags(t *testing.T) {
	// By bytes: digits, then the colon, then the line below, then letters; what goes on stands behind.
	checkTags(t, tags("0", "v", "9", "v", ":", "v", "_", "v", "a", "v", "aa", "v", "ab", "v", "b", "v"), true)
	for _, keys := range [][2]string{{"a", "_"}, {"_", ":"}, {":", "9"}, {"aa", "a"}, {"b", "ab"}, {"a9", "a10"}, {"a", "a"}} {
		checkTags(t, tags(keys[0], "v", keys[1], "w"), false)
		checkTags(t, tags("0", "v", keys[0], "v", keys[1], "w"), false)
		checkTags(t, tags(keys[0], "v", keys[1], "w", "z", "v"), false)
	}
	// The Values have no part in it.
	checkTags(t, tags("a", "z", "b", "y", "c", "y"), true)
	checkTags(t, tags("b", "a", "a", "b"), false)
	checkTags(t, tags("a", "v", "c", "v", "a", "v"), false)
}

func TestTagsAgainstTheWords(t *testing.T) {
	tell := numbers(21)
	yes := 0
	for range 20000 {
		ts := shakenTags(tell, someTags(tell))
		if tagsCanBe(ts) {
			yes++
		}
		checkTags(t, ts, tagsCanBe(ts))
	}
	if yes < 2000 || yes > 18000 {
		t.Error("of one kind too few:", yes)
	}
}

func TestTagOf(t *testing.T) {
	ts := tags("highway", "street", "name", "Mill Lane", "oneway", "yes")
	for key, want := range map[string]string{
		"highway": "street", "name": "Mill Lane", "oneway": "yes",
		"": "", "nam": "", "names": "", "Name": "", "street": "",
	} {
		if got := impl.TagOf(ts, key); got != want {
			t.Errorf("%q: %q", key, got)
		}
	}
	if impl.TagOf(nil, "name") != "" || impl.TagOf([]impl.Tag{}, "") != "" {
		t.Error("of none")
	}
}

// TagOf asks for no order: of lists that are no Tags, too, the first with that Key counts.
func TestTagOfAnyList(t *testing.T) {
	ts := tags("b", "1", "a", "2", "b", "3", "", "4", "A B", "5", "a", "6", "c", "", "c", "7")
	for key, want := range map[string]string{"b": "1", "a": "2", "": "4", "A B": "5", "c": "", "d": ""} {
		if got := impl.TagOf(ts, key); got != want {
			t.Errorf("%q: %q", key, got)
		}
	}
	long := manyTags(200)
	long[199].Value = "last"
	if got := impl.TagOf(long, long[199].Key); got != "last" {
		t.Errorf("%q", got)
	}
}
