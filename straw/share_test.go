package straw_test

import (
	"math"
	"slices"
	"testing"

	"thole/straw"
)

func share(t *testing.T, ids, weights []int, n int, want []int) {
	t.Helper()
	if got := straw.Share(ids, weights, n); !slices.Equal(got, want) {
		t.Errorf("Share(%v, %v, %d): %v, want %v", ids, weights, n, got, want)
	}
}

// The numbers wanted were reckoned by a program of its own, in Python, from the chapters' words.
func TestShare(t *testing.T) {
	for _, c := range []struct {
		ids, weights []int
		want         [4][]int // for n 1, 2, 10 and 10000
	}{
		{[]int{0, 1, 2, 3}, []int{w, w, w, w}, [4][]int{{1, 0, 0, 0}, {1, 0, 0, 1}, {2, 3, 3, 2}, {2499, 2511, 2505, 2485}}},
		{[]int{-2, -3, -4}, []int{2 * w, w, 3 * w}, [4][]int{{0, 0, 1}, {0, 0, 2}, {2, 0, 8}, {3302, 1663, 5035}}},
		{[]int{0, 1, 2, 3, 4, 5, 6, 7}, []int{w, 0, w / 2, -1, 16 * w, 1, w, 3}, [4][]int{{4: 1, 7: 0}, {4: 2, 7: 0}, {4: 9, 6: 1, 7: 0}, {527, 0, 259, 0, 8684, 0, 530, 0}}},
		{[]int{7, -7, 1<<32 + 7, 1 << 31, math.MaxInt, math.MinInt}, []int{1, 2, 3, 4, 5, 6}, [4][]int{{4: 1, 5: 0}, {4: 1, 5: 1}, {0, 2, 2, 1, 3, 2}, {0, 1015, 1505, 2018, 2556, 2906}}},
		{[]int{5}, []int{1}, [4][]int{{1}, {2}, {10}, {10000}}},
	} {
		for i, n := range []int{1, 2, 10, 10000} {
			share(t, c.ids, c.weights, n, c.want[i])
		}
	}
}

func TestShareRoundItsMost(t *testing.T) {
	ids, weights := []int{0, 1, 2, 3}, []int{w, w, w, w}
	share(t, ids, weights, 9999, []int{2499, 2511, 2505, 2484})
	for _, n := range []int{10000, 10001, 20000, 1 << 32, 1<<32 + 5, math.MaxInt} {
		share(t, ids, weights, n, []int{2499, 2511, 2505, 2485})
	}
}

func TestShareOfNoX(t *testing.T) {
	for _, n := range []int{0, -1, -10000, -1 << 32, math.MinInt} {
		share(t, []int{0, 1, 2}, []int{w, w, w}, n, []int{0, 0, 0})
		share(t, nil, nil, n, nil)
		share(t, []int{0, 1, 2}, []int{w, w}, n, nil)
	}
}

func TestShareOfNoWeight(t *testing.T) {
	share(t, []int{5}, []int{0}, 100, []int{0})
	share(t, []int{5, 6, 7}, []int{0, -1, math.MinInt}, 100, []int{0, 0, 0})
	share(t, []int{5, 6, 7}, []int{0, 1, math.MinInt}, 100, []int{0, 100, 0})
}

func TestShareOfNothing(t *testing.T) {
	for _, l := range [][2][]int{{nil, nil}, {nil, {}}, {{}, nil}, {{}, {}}} {
		share(t, l[0], l[1], 100, nil)
	}
}

func TestShareOfListsThatDoNotFit(t *testing.T) {
	for ids := range 5 {
		for weights := range 5 {
			if ids != weights {
				share(t, []int{4, 3, 2, 1, 0}[:ids], []int{w, w, w, w, w}[:weights], 100, nil)
			}
		}
	}
}

// Of those that draw the same, the place that Choose tells has the x.
func TestShareOfTheSameOneTwice(t *testing.T) {
	share(t, []int{5, 5}, []int{w, w}, 100, []int{100, 0})
	share(t, []int{5, 5}, []int{0, w}, 100, []int{0, 100})
	share(t, []int{5, 6, 7}, []int{math.MaxInt, math.MaxInt, math.MaxInt}, 100, []int{100, 0, 0})
}

func TestShareCountsWhatChooseTells(t *testing.T) {
	d := dice(11)
	for range 60 {
		ids, weights := d.lists(d.next(9))
		n := d.next(300)
		want := make([]int, len(ids))
		for x := range n {
			if k, ok := straw.Choose(ids, weights, uint32(x), 0); ok {
				want[k]++
			}
		}
		share(t, ids, weights, n, want)
	}
}
