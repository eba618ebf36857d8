package straw_test

import (
	"math"
	"slices"
	"testing"

	"thole/straw"
)

// P7.5: where a weight grows, an x stays where it was, or comes to the one that grew.
func TestAWeightThatGrowsTakesOnly(t *testing.T) {
	d, came, stayed := dice(3), 0, 0
	for range 400 {
		ids, weights := d.lists(1 + d.next(9))
		k := d.next(len(ids))
		grown := slices.Clone(weights)
		grown[k] = grow(&d, weights[k])
		for x := range 50 {
			r := d.next(60)
			was, ok := straw.Choose(ids, weights, uint32(x), r)
			is, ok2 := straw.Choose(ids, grown, uint32(x), r)
			switch {
			case ok && !ok2:
				t.Fatalf("Choose(%v, %v, %d, %d): none, with a weight that grew", ids, grown, x, r)
			case ok2 && is == k && (!ok || was != k):
				came++
			case ok != ok2 || was != is:
				t.Fatalf("Choose(%v, .., %d, %d): %d of %v, %d of %v", ids, x, r, was, weights, is, grown)
			default:
				stayed++
			}
		}
	}
	if came == 0 || stayed == 0 {
		t.Errorf("%d came, %d stayed: the test itself looks at nothing", came, stayed)
	}
}

func grow(d *dice, weight int) int {
	switch d.next(4) {
	case 0:
		return weight + 1
	case 1:
		return math.MaxInt
	}
	return weight + 1 + d.next(16*w)
}

// P7.5: where one is left out, or loses its weight, those x alone change that it had.
func TestOneThatIsLeftOutLosesItsOwnOnly(t *testing.T) {
	d, had, kept := dice(5), 0, 0
	for range 400 {
		ids, weights := d.lists(2 + d.next(8))
		k := d.next(len(ids))
		bare := slices.Clone(weights)
		bare[k] = -d.next(2)
		fewer, by := slices.Delete(slices.Clone(ids), k, k+1), slices.Delete(slices.Clone(weights), k, k+1)
		for x := range 50 {
			r := d.next(60)
			was, ok := straw.Choose(ids, weights, uint32(x), r)
			if ok && was == k {
				had++
				continue
			}
			choose(t, ids, bare, uint32(x), r, was, ok)
			if ok && was > k {
				was--
			}
			choose(t, fewer, by, uint32(x), r, was, ok)
			kept++
		}
	}
	if had == 0 || kept == 0 {
		t.Errorf("%d had, %d kept: the test itself looks at nothing", had, kept)
	}
}

// A share is as great as its weight is of all weights, within what chance allows.
func TestSharesGoByWeight(t *testing.T) {
	for _, weights := range [][]int{{w, w}, {w, 2 * w, 3 * w}, {1, 2, 3, 4}, {16 * w, w, 8 * w, 0, 4 * w}, {3 * w, 3 * w, 3 * w, 3 * w, 3 * w, 3 * w, 3 * w, 3 * w}} {
		ids, sum := make([]int, len(weights)), 0
		for i, weight := range weights {
			ids[i] = 10 + i
			sum += weight
		}
		done := 0
		for i, n := range straw.Share(ids, weights, 10000) {
			if want := 10000 * weights[i] / sum; n < want-250 || n > want+250 {
				t.Errorf("Share of %v: place %d has %d of 10000, by its weight %d", weights, i, n, want)
			}
			done += n
		}
		if done != 10000 {
			t.Errorf("Share of %v: %d in all", weights, done)
		}
	}
}
