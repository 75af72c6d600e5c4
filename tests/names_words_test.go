package tests

import (
	"strings"
	"testing"

	"loop.example/g00024/impl"
)

// Promise 16: the words of a text.

func TestWords(t *testing.T) {
	checkWords(t, "Old-Mill Ln. 4", "old", "mill", "lane", "4")
	checkWords(t, "a", "a")
	checkWords(t, "4b 12", "4b", "12")
	checkWords(t, "St. John's Rd", "street", "john", "south", "road")
	checkWords(t, "a b a", "a", "b", "a")
}

func TestTextsWithoutWords(t *testing.T) {
	for _, text := range []string{"", " ", "  ", "-", ".,;:!?'\"", "--- ---", "_", "\x00", "\n\t", "\u00e9\u00e8", strings.Repeat(" ", 100)} {
		checkWords(t, text)
	}
}

func TestBlanksAndSignsPartWords(t *testing.T) {
	checkWords(t, " a", "a")
	checkWords(t, "a ", "a")
	checkWords(t, "   a   b   ", "a", "b")
	checkWords(t, "-a--b-", "a", "b")
	checkWords(t, "a_b", "a", "b")
	checkWords(t, "a\nb\tc\x00d", "a", "b", "c", "d")
	checkWords(t, "o'neill's", "o", "neill", "south")
}

func TestEachByteIsOfAWordOrNot(t *testing.T) {
	// kept are the bytes of words, and what each means: those that lie just beside them are no letters.
	kept := map[int]string{}
	for b := '0'; b <= '9'; b++ {
		kept[int(b)] = string(b)
	}
	for b := 'a'; b <= 'z'; b++ {
		kept[int(b)], kept[int(b-'a'+'A')] = string(b), string(b)
	}
	for b := range 256 {
		text := string([]byte{byte(b)})
		small, ok := kept[b]
		if !ok {
			checkWords(t, text)
			checkWords(t, "x"+text+"y", "x", "y")
			checkWords(t, text+"x"+text, "x")
			continue
		}
		checkWords(t, "x"+text+"y", "x"+small+"y")
		checkWords(t, text+text, small+small)
		if small != "n" && small != "s" {
			checkWords(t, text, small)
		}
	}
	for _, b := range "/:@[`{" {
		checkWords(t, "x"+string(b)+"y", "x", "y")
	}
}

func TestCapitalsAreSmallLetters(t *testing.T) {
	checkWords(t, "ABCDEFGHIJKLMNOPQRSTUVWXYZ", "abcdefghijklmnopqrstuvwxyz")
	checkWords(t, "abcdefghijklmnopqrstuvwxyz", "abcdefghijklmnopqrstuvwxyz")
	checkWords(t, "0123456789", "0123456789")
	checkWords(t, "mIlL MILL Mill", "mill", "mill", "mill")
}

func TestBytesAbove127PartWords(t *testing.T) {
	// Whole runes, also such as are letters or digits elsewhere, and such as have a small letter of English.
	for _, sign := range []string{"\u00e9", "\u00df", "\u0130", "\u017f", "\u212a", "\uff21", "\uff11", "\u0661", "\u4e00", "\U0001d400", "\u00a0", "\ufffd", "\u0301"} {
		checkWords(t, sign)
		checkWords(t, "ab"+sign+"cd", "ab", "cd")
		checkWords(t, sign+"ab"+sign+sign, "ab")
	}
	// Halves of runes, and bytes that are none.
	for _, sign := range []string{"\xc3", "\xa9", "\xe2\x82", "\xf0\x9f\x98", "\xff", "\xfe\xff", "\xc0\x80", "\xed\xa0\x80", "\x80"} {
		checkWords(t, sign)
		checkWords(t, "ab"+sign+"cd", "ab", "cd")
		checkWords(t, sign+"ab"+sign+sign, "ab")
	}
	checkWords(t, "caf\u00e9s", "caf", "south")
}

func TestWordsOfLongTexts(t *testing.T) {
	long := strings.Repeat("a", 100)
	checkWords(t, long, long)
	checkWords(t, long[:99]+" ", long[:99])
	checkWords(t, " "+long[:99], long[:99])
	checkWords(t, strings.Repeat("x ", 50), strings.Split(strings.Repeat("x ", 49)+"x", " ")...)
	checkWords(t, strings.Repeat("\u00e9", 49)+"ab", "ab")
	for _, text := range []string{long + "a", long + " ", " " + long, strings.Repeat("x ", 50) + "x", strings.Repeat("\u00e9", 50) + "a", strings.Repeat("a ", 1<<20)} {
		checkWords(t, text)
	}
}

func TestShortWordsMeanWholeOnes(t *testing.T) {
	meant := map[string]string{"st": "street", "rd": "road", "ln": "lane", "n": "north", "s": "south", "nth": "north"}
	for short, whole := range meant {
		for _, text := range []string{short, strings.ToUpper(short), strings.ToUpper(short[:1]) + short[1:]} {
			checkWords(t, text, whole)
			checkWords(t, "-"+text+".", whole)
			checkWords(t, "mill "+text+" 4", "mill", whole, "4")
			checkWords(t, text+" "+text, whole, whole)
			// A part of a longer word is none.
			checkWords(t, text+"x", short+"x")
			checkWords(t, "x"+text, "x"+short)
			checkWords(t, text+"4", short+"4")
			checkWords(t, text+text, short+short)
		}
		checkWords(t, whole, whole)
	}
	checkWords(t, "ts dr nl th sth w e ave str", "ts", "dr", "nl", "th", "sth", "w", "e", "ave", "str")
}

// The words of texts by chance, and of their parts, are those of a separate reckoning.
func TestWordsAsReckoned(t *testing.T) {
	tell := numbers(200)
	kinds := map[int]int{}
	for range 60000 {
		text := ""
		for range tell.Intn(9) {
			text += pick(tell, "st", "ST", "n", "S", "nth", "rd", "Ln", "a", "Z", "0", "9", " ", "  ", "-", "@", "[", "`", "{", "/", ":", "\xc3", "\u00e9", "\x80", "\x00", string(rune(tell.Intn(300))), string([]byte{byte(tell.Intn(256))}))
		}
		if tell.Intn(9) == 0 {
			text = strings.Repeat(text, 1+tell.Intn(20))
		}
		want := wordsOf(text)
		kinds[min(len(want), 3)]++
		checkWords(t, text, want...)
		if t.Failed() {
			t.Fatal(text)
		}
		for _, word := range want {
			// A word has no others: it is its own only one.
			checkWords(t, word, word)
		}
	}
	if len(kinds) < 4 || kinds[3] < 5000 || kinds[0] < 3000 {
		t.Error("too few of a kind:", kinds)
	}
}

func TestWordsMayBeLongerThanMaxWord(t *testing.T) {
	word := strings.Repeat("b", impl.MaxWord+1)
	checkWords(t, word+" "+word, word, word)
}
