package crush_test

import (
	"math"
	"testing"

	"thole/api"
	"thole/crush"
)

// good holds Check, and all that asks it, to a hierarchy that is good.
func good(t *testing.T, what string, m api.Map) {
	t.Helper()
	if e := crush.Check(m); e != api.OK {
		t.Fatalf("%s: Check: %v of %s", what, e, show(m))
	}
}

// bad holds Check to a hierarchy that is not good, and those calls that tell nothing of it.
func bad(t *testing.T, what string, m api.Map) {
	t.Helper()
	if e := crush.Check(m); e != api.ErrArg {
		t.Fatalf("%s: Check: %v of %s", what, e, show(m))
	}
	for _, id := range []int{0, 3, 7, -1, -2, -3, -8} {
		list(t, m, what+": Leaves", crush.Leaves(m, id))
		if got := crush.Weight(m, id); got != 0 {
			t.Fatalf("%s: Weight(%d): %d of %s", what, id, got, show(m))
		}
		for kind := range 4 {
			if got, ok := crush.Under(m, id, kind); got != 0 || ok {
				t.Fatalf("%s: Under(%d, %d): %d %v of %s", what, id, kind, got, ok, show(m))
			}
		}
	}
	for _, x := range manyX() {
		picks(t, m, x, 8)
	}
	if got := crush.Tree(m); len(got) != 0 {
		t.Fatalf("%s: Tree: %q of %s", what, got, show(m))
	}
}

func TestGoodHierarchies(t *testing.T) {
	good(t, "nothing", api.Map{})
	good(t, "the example", two())
	good(t, "one bucket", flat())
	for leaf := range 4 {
		good(t, "racks", deep(leaf, nil))
	}
	good(t, "a bucket of nothing", api.Map{Buckets: []api.Bucket{b(-1, host, nil), b(-2, rack, []int{}), b(-3, root, []int{-2}, 0)}})
	good(t, "far Ids", api.Map{Buckets: []api.Bucket{b(math.MinInt, rack, []int{-1 << 32}, w), b(-1<<32, host, []int{7}, w)}})
	good(t, "no hosts on the way", api.Map{Buckets: []api.Bucket{b(-1, root, []int{0, -2}, 1, 1), b(-2, rack, []int{1}, 1)}})
	good(t, "several roots", api.Map{Buckets: []api.Bucket{b(-2, host, []int{0}, 1), b(-1, host, []int{1}, 1), b(-3, root, nil)}})
	good(t, "osds that the map does not say", api.Map{Buckets: []api.Bucket{b(-1, host, []int{0, 7}, 1, 1)}})
	good(t, "osds that are down", api.Map{Osds: make([]api.Osd, 9), Buckets: []api.Bucket{b(-1, host, []int{0, 7}, 1, 1)}})
	good(t, "weights at their ends", api.Map{Buckets: []api.Bucket{b(-1, host, []int{0, 1, 2}, 0, 16*w, 16*w-1)}})
	good(t, "a bucket ahead of what holds it", api.Map{Buckets: []api.Bucket{b(-5, host, []int{0}, 1), b(-1, root, []int{-5}, 1)}})
}

func TestIdsThatMayNotBe(t *testing.T) {
	for _, id := range []int{0, 1, 7, 8, 1 << 32, math.MaxInt} {
		bad(t, "an Id", with(two(), func(m *api.Map) { m.Buckets = append(m.Buckets, b(id, host, nil)) }))
		bad(t, "an Id of the first one", with(two(), func(m *api.Map) { m.Buckets[0].Id = id }))
	}
	for _, id := range []int{-1, -2, -3} {
		bad(t, "an Id twice", with(two(), func(m *api.Map) { m.Buckets = append(m.Buckets, b(id, host, nil)) }))
		bad(t, "an Id twice, of another kind", with(two(), func(m *api.Map) { m.Buckets = append([]api.Bucket{b(id, root, nil)}, m.Buckets...) }))
	}
	bad(t, "the same bucket twice", with(two(), func(m *api.Map) { m.Buckets = append(m.Buckets, m.Buckets[1]) }))
}

func TestKindsThatMayNotBe(t *testing.T) {
	for _, kind := range far {
		change := with(flat(), func(m *api.Map) { m.Buckets[0].Kind = kind })
		if kind >= 1 && kind <= 3 {
			good(t, "a kind", change)
		} else {
			bad(t, "a kind", change)
		}
	}
	bad(t, "a kind of an empty one", api.Map{Buckets: []api.Bucket{b(-1, 0, nil)}})
	bad(t, "a kind of an empty one", api.Map{Buckets: []api.Bucket{b(-1, 4, nil)}})
}

func TestLeavesThatMayNotBe(t *testing.T) {
	for _, leaf := range far {
		change := with(two(), func(m *api.Map) { m.Leaf = leaf })
		if leaf >= 0 && leaf <= 3 {
			good(t, "a Leaf", change)
		} else {
			bad(t, "a Leaf", change)
			bad(t, "a Leaf of nothing", api.Map{Leaf: leaf})
		}
	}
}

func TestWeightsThatMayNotBe(t *testing.T) {
	for _, weight := range append([]int{16*w + 1, 16 * w, 16*w - 1, 32 * w, -16 * w, 1<<32 + 1, -1<<32 + 1}, far...) {
		for _, place := range [][2]int{{0, 0}, {0, 1}, {1, 1}, {2, 0}} {
			change := with(two(), func(m *api.Map) { m.Buckets[place[0]].Weights[place[1]] = weight })
			if weight >= 0 && weight <= 16*w {
				good(t, "a weight", change)
			} else {
				bad(t, "a weight", change)
			}
		}
	}
}

func TestWeightsThatDoNotFit(t *testing.T) {
	for bucket := range 3 {
		bad(t, "more", with(two(), func(m *api.Map) { m.Buckets[bucket].Weights = []int{w, w, w} }))
		bad(t, "fewer", with(two(), func(m *api.Map) { m.Buckets[bucket].Weights = m.Buckets[bucket].Weights[:1] })) // what is cut off lies behind the list's end
		bad(t, "none", with(two(), func(m *api.Map) { m.Buckets[bucket].Weights = nil }))
	}
	bad(t, "of nothing", api.Map{Buckets: []api.Bucket{b(-1, host, nil, 0)}})
}

func TestItemsThatMayNotBe(t *testing.T) {
	for _, item := range []int{8, 9, 1 << 32, 1<<32 + 2, math.MaxInt, math.MinInt, -1 << 32, -4, -1<<32 - 2} {
		for _, place := range [][2]int{{0, 0}, {1, 1}, {2, 0}} {
			bad(t, "an item", with(two(), func(m *api.Map) {
				m.Osds = manyUp(12)
				m.Buckets[place[0]].Items[place[1]] = item
			}))
		}
	}
}

func TestItemsTwice(t *testing.T) {
	bad(t, "an osd in one bucket", with(two(), func(m *api.Map) { m.Buckets[1].Items[1] = 0 }))
	bad(t, "an osd in two", with(two(), func(m *api.Map) { m.Buckets[1].Items[1] = 2 }))
	bad(t, "an osd in two, one above the other", with(two(), func(m *api.Map) { m.Buckets[0].Items[1] = 0 }))
	bad(t, "a bucket in one", with(two(), func(m *api.Map) { m.Buckets[0].Items[1] = -2 }))
	bad(t, "a bucket in two", with(two(), func(m *api.Map) {
		m.Buckets = append(m.Buckets, b(-9, root, []int{-3}, 0))
	}))
}

// No way down comes back, as the kinds fall.
func TestItemsOfNoLowerKind(t *testing.T) {
	for kind := 1; kind <= 3; kind++ {
		bad(t, "itself", api.Map{Buckets: []api.Bucket{b(-1, kind, []int{-1}, w)}})
		for below := 1; below <= 3; below++ {
			for _, m := range []api.Map{
				{Buckets: []api.Bucket{b(-1, kind, []int{-2}, w), b(-2, below, []int{0}, w)}},
				{Buckets: []api.Bucket{b(-2, below, []int{0}, w), b(-1, kind, []int{-2}, w)}},
			} {
				if below < kind {
					good(t, "a kind below", m)
				} else {
					bad(t, "a kind that is not below", m)
				}
			}
			bad(t, "round", api.Map{Buckets: []api.Bucket{b(-1, kind, []int{-2}, w), b(-2, below, []int{-1}, w)}})
		}
	}
}

func TestCheckOfManyHierarchies(t *testing.T) {
	d := dice(8)
	told := map[bool]int{}
	for range 20000 {
		m := d.good()
		good(t, "made so", m)
		if len(m.Buckets) == 0 {
			continue
		}
		m = d.worse(m)
		told[plainGood(m)]++
		if e := crush.Check(m); (e == api.OK) != plainGood(m) || e != api.OK && e != api.ErrArg {
			t.Fatalf("Check: %v of %s", e, show(m))
		}
	}
	if told[true] < 1000 || told[false] < 1000 {
		t.Errorf("only %d good ones and %d others", told[true], told[false])
	}
}
