package impl

import (
	"math/rand"
	"slices"
	"testing"
)

// Cells are never alike, and a cover drains its heap to the end: what else a heap may be asked is asked here.
func TestHeap(t *testing.T) {
	tell := rand.New(rand.NewSource(2))
	for range 2000 {
		h := heap[int]{ahead: func(a int, b int) bool { return a < b }}
		var left []int
		for range tell.Intn(60) {
			if len(left) > 0 && tell.Intn(3) == 0 {
				slices.Sort(left)
				if got := h.pop(); got != left[0] {
					t.Fatal("popped", got, "of", left)
				}
				left = left[1:]
				continue
			}
			n := tell.Intn(20)
			h.push(n)
			left = append(left, n)
		}
		slices.Sort(left)
		half := len(left) / 2
		if got := takeFrom(&h, half); !slices.Equal(got, left[:half]) {
			t.Fatal(got, "of", left)
		}
		if got := takeFrom(&h, len(left)); !slices.Equal(got, left[half:]) {
			t.Fatal(got, "is left of", left)
		}
	}
}

// takeFrom ends early when it has enough: the rest must stay.
func takeFrom(h *heap[int], count int) []int {
	var taken []int
	if count == 0 {
		return taken
	}
	for n := range h.drain {
		taken = append(taken, n)
		if len(taken) == count {
			break
		}
	}
	return taken
}

// What is pushed while a heap is drained comes in its turn.
func TestHeapsAreFilledWhileDrained(t *testing.T) {
	h := heap[int]{ahead: func(a int, b int) bool { return a < b }}
	h.push(1)
	var got []int
	for n := range h.drain {
		got = append(got, n)
		if n < 20 {
			h.push(3 * n)
			h.push(2 * n)
		}
	}
	if !slices.Equal(got, []int{1, 2, 3, 4, 6, 6, 8, 9, 12, 12, 12, 16, 18, 18, 18, 24, 24, 24, 24, 27, 32, 36, 36, 36, 36, 36, 36, 48, 54, 54, 54}) {
		t.Error(got)
	}
}
