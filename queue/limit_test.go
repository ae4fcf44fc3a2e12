package queue_test

import (
	"math"
	"testing"

	"watchfire/queue"
)

// holdLimit holds what Limit answers, and what the chapter's words do.
func holdLimit(t *testing.T, nodes, want int) {
	t.Helper()
	if got := queue.Limit(nodes); got != want {
		t.Errorf("Limit(%d) = %d, not %d", nodes, got, want)
	}
	if words := wantLimit(nodes); words != want {
		t.Errorf("Limit(%d), by words: %d, not %d", nodes, words, want)
	}
}

// P14.1: numbers below 1, the first ones, and the example.
func TestLimit(t *testing.T) {
	for _, nodes := range []int{0, -1, -2, -3, -4, -64, -1 << 31, -1 << 32, -1 << 62, math.MinInt + 1, math.MinInt} {
		holdLimit(t, nodes, 3)
	}
	for nodes, want := range []int{3, 3, 6, 6, 9, 9, 9, 9, 12, 12, 12, 12, 12, 12, 12, 12, 15} {
		holdLimit(t, nodes, want)
	}
	holdLimit(t, 63, 18)
	holdLimit(t, 64, 21)
	holdLimit(t, 65, 21)
}

// P14.1: each power of two, one less, and one more.
func TestLimitOfPowers(t *testing.T) {
	for power := 1; power < 63; power++ {
		nodes := 1 << power
		holdLimit(t, nodes-1, 3*power)
		holdLimit(t, nodes, 3*power+3)
		holdLimit(t, nodes+1, 3*power+3)
	}
	holdLimit(t, math.MaxInt-1, 189)
	holdLimit(t, math.MaxInt, 189)
}

// P14.1: many numbers, against the chapter's words.
func TestLimitWords(t *testing.T) {
	for nodes := -1000; nodes < 70_000; nodes++ {
		holdLimit(t, nodes, wantLimit(nodes))
	}
}
