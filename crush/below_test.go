package crush_test

import (
	"slices"
	"testing"

	"thole/api"
	"thole/crush"
)

func weighs(t *testing.T, m api.Map, id, want int) {
	t.Helper()
	if got := crush.Weight(m, id); got != want {
		t.Fatalf("Weight(%d): %d, want %d, of %s", id, got, want, show(m))
	}
}

func under(t *testing.T, m api.Map, osd, kind, want int, found bool) {
	t.Helper()
	if got, ok := crush.Under(m, osd, kind); got != want || ok != found {
		t.Fatalf("Under(%d, %d): %d %v, want %d %v, of %s", osd, kind, got, ok, want, found, show(m))
	}
}

func TestLeaves(t *testing.T) {
	list(t, two(), "Leaves(-1)", crush.Leaves(two(), -1), 0, 1, 2, 3) // the chapter's example
	list(t, two(), "Leaves(-2)", crush.Leaves(two(), -2), 0, 1)
	list(t, two(), "Leaves(-3)", crush.Leaves(two(), -3), 2, 3)
	m := deep(1, nil)
	list(t, m, "Leaves(-1)", crush.Leaves(m, -1), 0, 1, 2, 3, 4, 5, 6, 7)
	list(t, m, "Leaves(-4)", crush.Leaves(m, -4), 5, 6, 7)
	list(t, m, "Leaves(-6)", crush.Leaves(m, -6), 2)
}

// The walk is from the left, not by numbers, nor by the order in which the buckets stand, nor bucket by bucket.
func TestLeavesAreInTheOrderOfTheWalk(t *testing.T) {
	m := api.Map{Buckets: []api.Bucket{
		b(-2, host, []int{5, 1}, 0, 0),
		b(-7, rack, []int{6, -2, 3}, 0, 0, 0),
		b(-9, root, []int{4, -7, 0, -3, 2}, 0, 0, 0, 0, 0),
		b(-3, host, nil),
	}}
	list(t, m, "Leaves(-9)", crush.Leaves(m, -9), 4, 6, 5, 1, 3, 0, 2)
	list(t, m, "Leaves(-7)", crush.Leaves(m, -7), 6, 5, 1, 3)
	list(t, m, "Leaves(-3)", crush.Leaves(m, -3))
}

func TestLeavesOfOneItem(t *testing.T) {
	for _, m := range []api.Map{{}, two(), flat()} {
		for _, id := range append([]int{-50, 5, 6}, far...) {
			switch {
			case id >= 0 && id < 8: // one that stands nowhere, too
				list(t, m, "Leaves of an osd", crush.Leaves(m, id), id)
			case id >= 8 || id < -3:
				list(t, m, "Leaves of none", crush.Leaves(m, id))
			}
		}
	}
	list(t, api.Map{}, "Leaves of a bucket that is not there", crush.Leaves(api.Map{}, -1))
}

func TestWeight(t *testing.T) {
	weighs(t, two(), -1, 4*w)
	weighs(t, two(), -2, 2*w)
	weighs(t, two(), 3, w)
	m := api.Map{Buckets: []api.Bucket{
		b(-1, root, []int{-2, 6, -3}, 7, 16*w, 100),
		b(-2, host, []int{0, 1, 5}, 3, 0, 4),
		b(-3, rack, nil),
		b(-8, host, []int{7}, 16*w),
	}}
	for _, c := range [][2]int{
		{-1, 107 + 16*w}, // of its Weights, not of those below, and its own in no other bucket
		{-2, 7}, {-3, 0}, {-8, 16 * w},
		{0, 3}, {1, 0}, {5, 4}, {6, 16 * w}, {7, 16 * w},
		{2, 0}, {3, 0}, {4, 0}, {8, 0}, {-4, 0},
	} {
		weighs(t, m, c[0], c[1])
	}
	m.Buckets[0].Weights[0] = 16 * w
	weighs(t, m, -2, 7) // a bucket's weight is the sum of its own, whatever the bucket above says
}

func TestWeightOfNone(t *testing.T) {
	for _, id := range far {
		weighs(t, api.Map{}, id, 0)
		if id < -3 || id > 7 {
			weighs(t, two(), id, 0)
		}
	}
}

func TestUnder(t *testing.T) {
	under(t, two(), 2, 1, -3, true) // the chapter's example
	m := deep(0, nil)
	for osd, want := range [][3]int{{-5, -2, -1}, {-5, -2, -1}, {-6, -2, -1}, {-7, -3, -1}, {-7, -3, -1}, {-8, -4, -1}, {-8, -4, -1}, {0, -4, -1}} {
		under(t, m, osd, 0, osd, true)
		for i, id := range want {
			under(t, m, osd, i+1, id, id != 0)
		}
	}
}

func TestUnderWhereKindsAreLeftOut(t *testing.T) {
	m := api.Map{Buckets: []api.Bucket{b(-4, root, []int{-1, 0}, 0, 0), b(-1, host, []int{1}, 0), b(-2, rack, []int{2}, 0), b(-3, host, []int{3}, 0)}}
	for osd, want := range [][3]int{{0, 0, -4}, {-1, 0, -4}, {0, -2, 0}, {-3, 0, 0}, {0, 0, 0}} {
		under(t, m, osd, 0, osd, true)
		for i, id := range want {
			under(t, m, osd, i+1, id, id != 0)
		}
	}
}

func TestUnderOfNone(t *testing.T) {
	for _, n := range far {
		if n < 0 || n > 3 {
			under(t, two(), 0, n, 0, false)
			under(t, api.Map{}, 0, n, 0, false)
		}
		if n < 0 || n > 7 { // a bucket's Id is no osd
			for kind := range 4 {
				under(t, two(), n, kind, 0, false)
				under(t, api.Map{}, n, kind, 0, false)
			}
		}
	}
	for osd := range 8 {
		under(t, api.Map{}, osd, 0, osd, true)
		for kind := 1; kind <= 3; kind++ {
			under(t, api.Map{}, osd, kind, 0, false)
		}
	}
}

// What Leaves, Weight and Under tell of many hierarchies is held against each other and against the buckets.
func TestBelowAgrees(t *testing.T) {
	d := dice(5)
	for range 3000 {
		m := d.good()
		for _, b := range m.Buckets {
			sum := 0
			var leaves []int
			for i, item := range b.Items {
				sum += b.Weights[i]
				leaves = append(leaves, crush.Leaves(m, item)...)
				if item >= 0 {
					weighs(t, m, item, b.Weights[i])
				}
			}
			weighs(t, m, b.Id, sum)
			list(t, m, "Leaves", crush.Leaves(m, b.Id), leaves...)
			for osd := range api.MaxOsd {
				got, ok := crush.Under(m, osd, b.Kind)
				if in := slices.Contains(leaves, osd); in != (ok && got == b.Id) {
					t.Fatalf("Under(%d, %d): %d %v, Leaves(%d): %v, of %s", osd, b.Kind, got, ok, b.Id, leaves, show(m))
				}
			}
		}
	}
}
