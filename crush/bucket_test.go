package crush_test

import (
	"math"
	"slices"
	"testing"

	"thole/api"
	"thole/crush"
)

func sameBucket(a, b api.Bucket) bool {
	return a.Id == b.Id && a.Kind == b.Kind && slices.Equal(a.Items, b.Items) && slices.Equal(a.Weights, b.Weights)
}

func holds(t *testing.T, m api.Map, id int, want api.Bucket, found bool) {
	t.Helper()
	if got, ok := crush.Bucket(m, id); !sameBucket(got, want) || ok != found {
		t.Fatalf("Bucket(%d): %v %v, want %v %v, of %s", id, got, ok, want, found, show(m))
	}
}

func TestBucket(t *testing.T) {
	m := deep(1, nil)
	for _, want := range m.Buckets {
		holds(t, m, want.Id, want, true)
	}
	for _, id := range append([]int{-9, -100, 5}, far...) {
		if id < -8 || id >= 0 {
			holds(t, m, id, api.Bucket{}, false)
		}
		holds(t, api.Map{}, id, api.Bucket{}, false)
	}
}

// It asks for nothing but the Id: all that makes a hierarchy bad stays as it stands in the map.
func TestBucketOfAnyHierarchy(t *testing.T) {
	l := []api.Bucket{
		b(-1, 7, []int{-1, -1, 99}, 5),
		b(-1, host, []int{0}, w),
		b(5, -3, nil, -1),
		b(math.MinInt, 0, nil),
		b(math.MaxInt, math.MinInt, []int{math.MinInt}, math.MaxInt),
		b(0, host, []int{1}, w),
		b(5, host, []int{2}, w),
	}
	m := api.Map{Leaf: 9, Buckets: l}
	for i, id := range []int{-1, math.MinInt, math.MaxInt, 0, 5} {
		holds(t, m, id, l[[]int{0, 3, 4, 5, 2}[i]], true)
	}
	slices.Reverse(l)
	for i, id := range []int{-1, 5} { // the first ones are others now
		holds(t, m, id, l[[]int{5, 0}[i]], true)
	}
	holds(t, m, -2, api.Bucket{}, false)
}

func TestRoots(t *testing.T) {
	for _, c := range []struct {
		m    api.Map
		want []int
	}{
		{api.Map{}, nil},
		{two(), []int{-1}},
		{flat(), []int{-1}},
		{deep(1, nil), []int{-1}},
		{with(two(), func(m *api.Map) { slices.Reverse(m.Buckets) }), []int{-1}},
		{with(two(), func(m *api.Map) { m.Buckets = m.Buckets[1:] }), []int{-2, -3}},
		{with(two(), func(m *api.Map) { m.Buckets = m.Buckets[1:]; slices.Reverse(m.Buckets) }), []int{-2, -3}},
		{with(two(), func(m *api.Map) { m.Buckets[0].Items[0] = 5 }), []int{-1, -2}},
		{api.Map{Buckets: []api.Bucket{b(-3, host, nil), b(-1, host, nil), b(-30, root, nil), b(-2, rack, nil)}}, []int{-1, -2, -3, -30}},
		{api.Map{Buckets: []api.Bucket{b(math.MinInt, host, nil), b(-1, host, nil), b(-1<<32, host, nil)}}, []int{-1, -1 << 32, math.MinInt}},
	} {
		list(t, c.m, "Roots", crush.Roots(c.m), c.want...)
	}
}

func TestRootsOfHierarchiesThatAreNotGood(t *testing.T) {
	for _, c := range []struct {
		buckets []api.Bucket
		want    []int
	}{
		{[]api.Bucket{b(-5, host, nil), b(-5, root, nil), b(-4, 9, nil), b(-5, host, nil)}, []int{-4, -5}}, // each once
		{[]api.Bucket{b(-1, host, []int{-1})}, nil},                                                        // its own item
		{[]api.Bucket{b(-1, host, []int{-2}), b(-2, host, []int{-1})}, nil},
		{[]api.Bucket{b(-1, host, []int{-2}), b(-2, host, []int{-1}), b(-3, host, []int{-1, -2})}, []int{-3}},
		{[]api.Bucket{b(-1, host, []int{-2, -2, 77}), b(-2, root, nil), b(-2, root, nil)}, []int{-1}},
		{[]api.Bucket{b(math.MaxInt, 0, nil), b(0, 0, nil), b(math.MinInt, 0, nil)}, []int{math.MaxInt, 0, math.MinInt}},
	} {
		m := api.Map{Leaf: -1, Buckets: c.buckets}
		list(t, m, "Roots", crush.Roots(m), c.want...)
	}
}

func TestRootsOfManyHierarchies(t *testing.T) {
	d := dice(3)
	for range 5000 {
		m := d.good()
		list(t, m, "Roots", crush.Roots(m), plainRoots(m)...)
		if len(m.Buckets) > 0 {
			m = d.worse(m)
			list(t, m, "Roots", crush.Roots(m), plainRoots(m)...)
		}
	}
}
