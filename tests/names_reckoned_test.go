package tests

import (
	"slices"
	"strings"

	"loop.example/g00024/impl"
)

// A separate reckoning of chapter 16, from the document's words.

// wordsOf goes by bytes: each that is none of a word is made a blank.
func wordsOf(text string) []string {
	if len(text) > 100 {
		return nil
	}
	const bytes = "abcdefghijklmnopqrstuvwxyz0123456789"
	plain := make([]byte, len(text))
	for i := range len(text) {
		small := strings.ToLower(text[i : i+1])
		plain[i] = ' '
		if strings.Contains(bytes, small) {
			plain[i] = small[0]
		}
	}
	meant := map[string]string{"st": "street", "rd": "road", "ln": "lane", "n": "north", "s": "south", "nth": "north"}
	words := strings.Fields(string(plain))
	for i, word := range words {
		if other, short := meant[word]; short {
			words[i] = other
		}
	}
	return words
}

// editsOf has a table of the changes between all beginnings of both.
func editsOf(a string, b string) int64 {
	if len(a) > 40 || len(b) > 40 {
		return 3
	}
	table := make([][]int, len(a)+1)
	for i := range table {
		table[i] = make([]int, len(b)+1)
		for k := range table[i] {
			if i == 0 || k == 0 {
				table[i][k] = i + k
				continue
			}
			changed := table[i-1][k-1]
			if a[i-1] != b[k-1] {
				changed++
			}
			table[i][k] = min(changed, table[i-1][k]+1, table[i][k-1]+1)
		}
	}
	return min(int64(table[len(a)][len(b)]), 3)
}

// changedOnce are all texts of these bytes that one change makes of these texts.
func changedOnce(texts map[string]bool, bytes string) map[string]bool {
	made := map[string]bool{}
	for text := range texts {
		for i := range len(text) + 1 {
			for k := range len(bytes) {
				made[text[:i]+bytes[k:k+1]+text[i:]] = true
				if i < len(text) {
					made[text[:i]+bytes[k:k+1]+text[i+1:]] = true
				}
			}
			if i < len(text) {
				made[text[:i]+text[i+1:]] = true
			}
		}
	}
	return made
}

func worthBy(word string, other string) int64 {
	worths := []int64{-3}
	if word == other {
		worths = append(worths, 10)
	}
	if len(word) >= 3 && len(other) >= len(word) && other[:len(word)] == word {
		worths = append(worths, 6)
	}
	if len(word) >= 4 && len(other) >= 4 && editsOf(word, other) == 1 {
		worths = append(worths, 4)
	}
	return slices.Max(worths)
}

func scoreOf(text string, name string) int64 { return scoreBy(text, name, worthBy) }

func scoreBy(text string, name string, worth func(word string, other string) int64) int64 {
	words := wordsOf(name)
	taken := make([]bool, len(words))
	score := int64(0)
	for _, word := range wordsOf(text) {
		best := int64(-3)
		for i, other := range words {
			if !taken[i] {
				best = max(best, worth(word, other))
			}
		}
		for i, other := range words {
			if !taken[i] && best > -3 && worth(word, other) == best {
				taken[i] = true
				break
			}
		}
		score += best
	}
	for _, one := range taken {
		score -= int64(count(!one))
	}
	return score
}

// thing is what may be found, in the order in which the document goes through them.
type thing struct {
	name string
	hit  impl.Hit
}

func thingsOf(m impl.Map) []thing {
	var all []thing
	for _, n := range m.Nodes {
		if name := valueOf(n.Tags, "name"); name != "" {
			all = append(all, thing{name, impl.Hit{Id: n.Id, At: n.Point}})
		}
	}
	for _, w := range m.Ways {
		if name := valueOf(w.Tags, "name"); name != "" {
			middle := nodeWith(m, w.Nodes[len(w.Nodes)/2])
			all = append(all, thing{name, impl.Hit{Way: true, Id: w.Id, At: middle.Point}})
		}
	}
	return all
}

func hitsOf(m impl.Map, text string, most int64) []impl.Hit { return hitsBy(m, text, most, worthBy) }

func hitsBy(m impl.Map, text string, most int64, worth func(word string, other string) int64) []impl.Hit {
	if !impl.MapOk(m) || most < 0 || most > 50 {
		return nil
	}
	var hits []impl.Hit
	for _, one := range thingsOf(m) {
		if one.hit.Score = scoreBy(text, one.name, worth); one.hit.Score > 0 {
			hits = append(hits, one.hit)
		}
	}
	slices.SortStableFunc(hits, func(a impl.Hit, b impl.Hit) int { return int(b.Score - a.Score) })
	return hits[:min(len(hits), int(most))]
}

func addressAt(m impl.Map, p impl.Point) impl.Address {
	if !impl.MapOk(m) || !impl.PointOk(p) {
		return impl.Address{}
	}
	a := impl.Address{Far: -1}
	for _, w := range slices.Backward(m.Ways) {
		name := valueOf(w.Tags, "name")
		if far := impl.Near(rowOf(m, w.Id), p).Far; name != "" && (a.Way == 0 || far <= a.Far) {
			a.Street, a.Way, a.Far = name, w.Id, far
		}
	}
	for _, one := range m.Areas {
		if rings := impl.Assemble(m, one.Id); rings.Fault == 0 && impl.Inside(rings.Rings, p) >= 0 {
			a.Areas = append(a.Areas, one.Id)
		}
	}
	return a
}
