package tests

import (
	"strings"
	"testing"

	"loop.example/g00024/impl"
)

// Promise 16: how many changes lie between two texts.

func TestEdits(t *testing.T) {
	checkEdits(t, "station", "statoin", 2)
	checkEdits(t, "mill", "mile", 1)
	checkEdits(t, "", "abcd", 3)
	checkEdits(t, "a", "a", 0)
	checkEdits(t, "kitten", "sitting", 3)
	checkEdits(t, "mill", "hill", 1)
	checkEdits(t, "mills", "hill", 2)
}

func TestEditsOfTheSame(t *testing.T) {
	for _, text := range []string{"", "a", "ab", "mill lane", "\x00", "\xff\xfe", "\u00e9", strings.Repeat("a", 40), strings.Repeat("ab", 20)} {
		checkEdits(t, text, text, 0)
	}
}

func TestEditsFromNothing(t *testing.T) {
	checkEdits(t, "", "", 0)
	checkEdits(t, "", "a", 1)
	checkEdits(t, "", "ab", 2)
	checkEdits(t, "", "abc", 3)
	checkEdits(t, "", "abcd", 3)
	checkEdits(t, "", strings.Repeat("a", 40), 3)
	checkEdits(t, "", strings.Repeat("a", 41), 3)
	checkEdits(t, "", "\u00e9", 2)
}

func TestOneChange(t *testing.T) {
	const word = "bridge"
	for i := range len(word) + 1 {
		checkEdits(t, word, word[:i]+"x"+word[i:], 1)
		checkEdits(t, word, word[:i]+"xy"+word[i:], 2)
		checkEdits(t, word, word[:i]+"xyz"+word[i:], 3)
		checkEdits(t, word, word[:i]+"wxyz"+word[i:], 3)
		if i < len(word) {
			checkEdits(t, word, word[:i]+word[i+1:], 1)
			checkEdits(t, word, word[:i]+"x"+word[i+1:], 1)
			checkEdits(t, word, word[:i]+"xy"+word[i+1:], 2)
			checkEdits(t, word, word[:i]+"xyz"+word[i+1:], 3)
		}
		if i < len(word)-1 {
			checkEdits(t, word, word[:i]+word[i+2:], 2)
			checkEdits(t, word, word[:i]+"x"+word[i+2:], 2)
			// Two bytes that have changed places are two changes.
			checkEdits(t, word, word[:i]+word[i+1:i+2]+word[i:i+1]+word[i+2:], 2)
		}
		if i < len(word)-2 {
			checkEdits(t, word, word[:i]+word[i+3:], 3)
			checkEdits(t, word, word[:i]+"xyz"+word[i+3:], 3)
		}
	}
}

func TestChangesFarApart(t *testing.T) {
	checkEdits(t, "xbridge", "bridgex", 2)
	checkEdits(t, "abridge", "bridges", 2)
	checkEdits(t, "bridge", "xridgy", 2)
	checkEdits(t, "bridge", "xriygz", 3)
	checkEdits(t, "bridge", "ridgex", 2)
	checkEdits(t, "bridge", "idgexx", 3)
	checkEdits(t, "ab", "ba", 2)
	checkEdits(t, "abab", "baba", 2)
	checkEdits(t, "aab", "ab", 1)
	checkEdits(t, "aabb", "ab", 2)
	checkEdits(t, "aaabbb", "ab", 3)
	checkEdits(t, "abc", "xyz", 3)
	checkEdits(t, "abcd", "wxyz", 3)
	checkEdits(t, "ab", "xy", 2)
	checkEdits(t, "a", "x", 1)
}

func TestEditsOfLongTexts(t *testing.T) {
	long := strings.Repeat("ab", 20)
	checkEdits(t, long, long[:39], 1)
	checkEdits(t, long, long[1:], 1)
	checkEdits(t, long, long[2:], 2)
	checkEdits(t, long, long[3:], 3)
	checkEdits(t, long, "b"+long[:39], 2)
	checkEdits(t, long, "x"+long[1:39]+"y", 2)
	checkEdits(t, long, strings.Repeat("ba", 20), 2)
	checkEdits(t, long, strings.Repeat("x", 40), 3)
	// One more on either side is 3, whatever it is held against.
	for _, other := range []string{"", "a", long, long[:39], long + "a", strings.Repeat("ab", 1<<20)} {
		checkEdits(t, long+"a", other, 3)
	}
	checkEdits(t, strings.Repeat("ab", 1<<20), long, 3)
}

func TestBytesAreHeldAgainstEachOtherAsTheyAre(t *testing.T) {
	checkEdits(t, "mill", "Mill", 1)
	checkEdits(t, "MILL", "mill", 3)
	checkEdits(t, "Mi", "mI", 2)
	checkEdits(t, "a b", "a-b", 1)
	checkEdits(t, "st", "street", 3)
	checkEdits(t, "n", "nth", 2)
	checkEdits(t, "\u00e9", "\u00e8", 1)
	checkEdits(t, "\u00e9", "e", 2)
	checkEdits(t, "\u00e9", "\u00a3", 2)
	checkEdits(t, "\u20ac", "\u00a3", 3)
	checkEdits(t, "\xff", "\xfe", 1)
	checkEdits(t, "\x00", "", 1)
	checkEdits(t, "\xc3", "\u00e9", 1)
}

// From each of these texts go all changes by these bytes, and from what they make all changes again.
func TestEditsAsChangesLead(t *testing.T) {
	const bytes = "aB\xff"
	for _, text := range []string{"", "a", "B", "aa", "a\xff", "aB\xff", "aaa", "aBa", "BaB", "aBaB", "aa\xff\xff", "aBBaB", "aaaaa"} {
		reached := map[string]int64{text: 0}
		last := map[string]bool{text: true}
		for changes := range int64(4) {
			next := changedOnce(last, bytes)
			last = map[string]bool{}
			for other := range next {
				if _, found := reached[other]; !found {
					reached[other] = changes + 1
					last[other] = true
				}
			}
		}
		told := map[int64]int{}
		for other, changes := range reached {
			checkEdits(t, text, other, min(changes, 3))
			told[min(changes, 3)]++
		}
		if told[0] != 1 || told[1] < 3 || told[2] < 9 || told[3] < 100 {
			t.Error("too few of a kind:", told)
		}
	}
}

func TestEditsAsReckoned(t *testing.T) {
	tell := numbers(201)
	told := map[int64]int{}
	for range 100000 {
		a := ""
		for range pick(tell, 3, 6, 38) + tell.Intn(4) {
			a += pick(tell, "a", "a", "b", "c")
		}
		b := a
		for range tell.Intn(5) {
			i := tell.Intn(len(b) + 1)
			switch k := min(i+1, len(b)); tell.Intn(4) {
			case 0:
				b = b[:i] + b[k:]
			case 1:
				b = b[:i] + pick(tell, "a", "b", "c") + b[i:]
			case 2:
				b = b[:i] + pick(tell, "a", "b", "c") + b[k:]
			default:
				b = b[i:] + b[:i]
			}
		}
		want := editsOf(a, b)
		told[want]++
		checkEdits(t, a, b, want)
		if t.Failed() {
			t.Fatal(a, b)
		}
	}
	for n := range int64(4) {
		if told[n] < 10000 {
			t.Error("too few of", n, told)
		}
	}
}

// Of three texts no way round is shorter than the straight one.
func TestEditsOfThree(t *testing.T) {
	tell := numbers(202)
	text := func() string {
		made := ""
		for range tell.Intn(5) {
			made += pick(tell, "a", "b")
		}
		return made
	}
	for range 20000 {
		a, b, c := text(), text(), text()
		if impl.Edits(a, c) > impl.Edits(a, b)+impl.Edits(b, c) {
			t.Fatal(a, b, c)
		}
	}
}
