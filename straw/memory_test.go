package straw_test

import (
	"slices"
	"sync"
	"testing"

	"thole/straw"
)

func TestWhatIsHandedInStays(t *testing.T) {
	ids, weights := []int{4, -3, 2, 1, 99, 98}, []int{w, 0, 2 * w, -5, 97, 96}
	wasIds, wasWeights := slices.Clone(ids), slices.Clone(weights)
	for n := range len(ids) + 1 {
		for x := range 20 {
			straw.Choose(ids[:n], weights[:n], uint32(x), 3)
		}
		straw.Share(ids[:n], weights[:n], 20)
		straw.Share(ids[:n], weights, 20)
	}
	if !slices.Equal(ids, wasIds) || !slices.Equal(weights, wasWeights) {
		t.Errorf("the caller's lists are %v, %v, were %v, %v", ids, weights, wasIds, wasWeights)
	}
}

func TestAShareIsMemoryOfItsOwn(t *testing.T) {
	ids, weights := append(make([]int, 0, 9), 0, 1, 2), append(make([]int, 0, 9), w, w, 3*w)
	one, want := straw.Share(ids, weights, 100), straw.Share(ids, weights, 100)
	if &one[0] == &want[0] {
		t.Error("two answers share memory")
	}
	for i := range one[:cap(one)] {
		one[:cap(one)][i] = -77
	}
	share(t, ids, weights, 100, want)
	if !slices.Equal(ids[:9], []int{0, 1, 2, 8: 0}) || !slices.Equal(weights[:9], []int{w, w, 3 * w, 8: 0}) {
		t.Errorf("what is done with an answer changes the caller's lists: %v, %v", ids[:9], weights[:9])
	}
}

// What the lists hold when a call is made counts, not what they held at one ahead.
func TestNothingIsKept(t *testing.T) {
	ids, weights := []int{0, 1, 2}, []int{w, w, w}
	want := straw.Share(ids, weights, 200)
	weights[1] = 0
	less := straw.Share(ids, weights, 200)
	if less[1] != 0 {
		t.Errorf("Share of %v: %v", weights, less)
	}
	weights[1] = w
	share(t, ids, weights, 200, want)
}

func TestSeveralGoroutinesHaveTheSameAnswers(t *testing.T) {
	ids, weights := []int{0, 1, 2, 3}, []int{w, 2 * w, w, 3 * w}
	want := straw.Share(ids, weights, 500)
	var got [8][]int
	var done sync.WaitGroup
	for i := range got {
		done.Go(func() { got[i] = straw.Share(ids, weights, 500) })
	}
	done.Wait()
	for i, g := range got {
		if !slices.Equal(g, want) {
			t.Errorf("goroutine %d: %v, want %v", i, g, want)
		}
	}
}
