package tests

import (
	"math"
	"math/rand"
	"slices"
	"strings"
	"testing"
)

const maxWord = int64(4294967295)

// noWords are numbers beyond either end of the words.
var noWords = []int64{-1, maxWord + 1, math.MinInt64, math.MaxInt64, -maxWord}

// edgeWords are words at both ends and around the highest bit.
var edgeWords = []int64{0, 1, 255, 1 << 31, 1<<31 - 1, 1<<31 + 1, maxWord - 1, maxWord}

// fixedRandom has the same numbers in each run, so that a failure can be seen again.
func fixedRandom() *rand.Rand {
	return rand.New(rand.NewSource(8439))
}

func randomText(r *rand.Rand, n int) string {
	b := make([]byte, n)
	for i := range b {
		b[i] = byte(r.Intn(256))
	}
	return string(b)
}

// countedText has bytes that come back at no power of two, so that a part in a wrong place is seen.
func countedText(n int) string {
	b := make([]byte, n)
	for i := range b {
		b[i] = byte(i*7 + i/256)
	}
	return string(b)
}

func randomWords(r *rand.Rand, n int) []int64 {
	l := make([]int64, n)
	for i := range l {
		l[i] = int64(r.Uint32())
	}
	return l
}

func zeros(n int) string {
	return strings.Repeat("\x00", n)
}

// withRoom answers l with room behind it that has marks, and a check that neither has been written into.
func withRoom(t *testing.T, l []int64) ([]int64, func()) {
	t.Helper()
	whole := slices.Concat(l, []int64{-77, -78, -79, -80})
	want := slices.Clone(whole)
	return whole[:len(l)], func() {
		t.Helper()
		if !slices.Equal(whole, want) {
			t.Errorf("the argument was written into: %d, want %d", whole, want)
		}
	}
}

func spoil(l []int64) {
	for i := range l {
		l[i] = -99
	}
}
