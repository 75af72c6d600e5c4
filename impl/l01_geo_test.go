package impl

import (
	"math"
	"math/bits"
	"math/rand"
	"testing"
)

// Coordinates alone never fill both words, so the whole of what they hold is asked for here.
func TestDoubleWords(t *testing.T) {
	tell := rand.New(rand.NewSource(1))
	edges := []uint64{0, 1, 2, 1<<32 - 1, 1 << 32, 1<<32 + 1, 1 << 63, math.MaxUint64 - 1, math.MaxUint64}
	pick := func() uint64 {
		if tell.Intn(4) == 0 {
			return edges[tell.Intn(len(edges))]
		}
		return tell.Uint64() >> tell.Intn(64)
	}
	for range 100000 {
		a, b, by := pick(), pick(), pick()
		high, low := bits.Mul64(a, b)
		got := product(a, b)
		if got != (doubleWord{high: high, low: low}) {
			t.Fatalf("%d times %d: %v", a, b, got)
		}
		if high >= by {
			continue
		}
		size, rest := bits.Div64(high, low, by)
		if q, r := got.over(by); q != size || r != rest {
			t.Fatalf("%d times %d over %d: %d rest %d", a, b, by, q, r)
		}
	}
}
